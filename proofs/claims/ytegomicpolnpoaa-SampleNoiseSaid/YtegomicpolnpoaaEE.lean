/- Valid blocks: the document's answer. -/
import Derived.Test.YtegomicpolnpoaaEB
namespace Go.Proofs.Ytegomicpolnpoaa
open Go.RowKit

theorem refValidB_eq {m : List (List Int)} (h : m.all (rowOk 8388607 (cols m)) = true) : validB m = (chB m.length && frB (cols m)) := by simp [validB, h]
theorem validB_no {m : List (List Int)} {k : Nat} (hk : k < m.length) (h : rowOk 8388607 (cols m) (m.getD k []) = false) : validB m = false := by
  simp only [validB, all_no_at (d := []) hk h, Bool.and_false]

set_option maxHeartbeats 2000000 in
set_option maxRecDepth 100000 in
theorem refValidBlock_any (m : List (List Int)) (v : Value) (w : World) (hv : MatIn w m v) :
    Calls Try.prog 42 #[v] w fun e w' => e = .returned (.bool (validB m)) ∧ Below w.heap.size w w' := by
  obtain ⟨a, ca, rfl, hin, hal, _⟩ := hv
  obtain ⟨C, hC⟩ : ∃ C, cols m = C := ⟨_, rfl⟩
  have hno : ∀ k, k < m.length → rowOk 8388607 C (m.getD k []) = false → validB m = false := fun k hk h => validB_no hk (by rw [hC]; exact h)
  have hyes : (∀ q, q < m.length → rowOk 8388607 C (m.getD q []) = true) → validB m = (chB m.length && frB C) := fun h => by
    rw [refValidB_eq (all_yes_of (d := []) fun q hq => by rw [hC]; exact h q hq), hC]
  have hz : 0 < m.length → ∃ b o a0 c0, a = some ⟨b, o, none⟩ ∧ w.cell? ⟨b, o, none⟩ = some (.slice a0 C c0) := fun hpos => by
    obtain ⟨b0, o0, u0, rfl, hc0, a0, c0, rfl, _, _, _⟩ := hin 0 hpos
    exact ⟨b0, o0, a0, c0, rfl, by rw [← hC]; exact hc0⟩
  obtain ⟨R, hR⟩ : ∃ R, validB m = R := ⟨_, rfl⟩
  have HR := Lib.hid hR
  have HC0 := Lib.hid hC
  rw [hR] at hno hyes ⊢
  have Hno := Lib.hid hno
  have Hyes := Lib.hid hyes
  have Hz := Lib.hid hz
  clear hno hyes hz hR hC
  go_enter Try.func42, Try.ntmps42
  go_wp2_with fail
  go_loopw [3] (fun i wr => ∃ j : Nat, i = .int .i64 j ∧ j ≤ m.length ∧ (∀ q, q < j → rowOk 8388607 C (m.getD q []) = true) ∧ (0 < j → C ≤ 4096) ∧ Below w.heap.size w wr) (fun i _ => m.length - (intOf i).toNat)
  case atStart => exact ⟨0, rfl, Nat.zero_le _, fun _ h => absurd h (Nat.not_lt_zero _), fun h => absurd h (Nat.not_lt_zero _), Below.refl _ _⟩
  case round =>
    obtain ⟨j, rfl, hj, hok, hjc, hbl⟩ := hrel
    have Hok := Lib.hid hok
    have Hjc := Lib.hid hjc
    clear hok hjc
    by_cases hlt : j < m.length
    · obtain ⟨ba, off, a0, c0, rfl, hc0⟩ := Hz.out (by omega)
      obtain ⟨_, _, u, hab, hcj, hu⟩ := hin j hlt
      simp only [Option.some.injEq, Addr.mk.injEq, and_true] at hab
      obtain ⟨rfl, rfl⟩ := hab
      have hposI : (0 : Int) < (m.length : Int) := by omega
      obtain ⟨p, hp⟩ : ∃ p, m.getD j [] = p := ⟨_, rfl⟩
      rw [hp] at hu
      obtain ⟨aj, cj, rfl, hpin, _, _⟩ := hu
      have Hp := Lib.hid hp
      clear hp
      have HC := Lib.hid (fun (x : World) (hx : Below w.heap.size w x) => And.intro ((Same.of_below hx).cell hc0) ((Same.of_below hx).cell hcj))
      obtain ⟨k0, kj⟩ := HC.out wr hbl
      clear hc0 hcj
      have w4 : (j : Int) < (m.length : Int) := by omega
      by_cases g1 : p.length = C
      · have e1 : ((p.length : Int) != (C : Int)) = false := by simp; omega
        by_cases g4 : 4096 < (p.length : Int)
        · have hf : R = false := by
            cases hR2 : R with
            | false => rfl
            | true => exact absurd (HR.out.trans hR2) (by simp [validB, frB, HC0.out, ← g1]; omega)
          have HF := Lib.hid hf
          have G1 := Lib.hid g1
          clear g1 hf
          go_wp2_with fail
          go_quiet (fail)
          go_wp2_with fail
          go_ret
          exact ⟨ret_bool HF.out.symm, below_drewN hbl _⟩
        have G1 := Lib.hid g1
        have hd4 : decide (4096 < (p.length : Int)) = false := by simpa using g4
        clear g1
        go_wp2_with fail
        go_quiet (fail)
        go_wp2_with fail
        have G4 := Lib.hid g4
        clear e1 k0 kj g4 hd4
        generalize hwx : wr.drewN _ = wx
        have hbx : Below w.heap.size w wx := by rw [← hwx]; exact below_drewN hbl _
        clear hwx hbl
        obtain ⟨wo, rfl⟩ : ∃ wo : World, wo = wx := ⟨_, rfl⟩
        go_loopw [4] (fun i wr => ∃ k : Nat, i = .int .i64 k ∧ k ≤ p.length ∧ (∀ q, q < k → inB 8388607 (p.getD q 0) = true) ∧ Below w.heap.size w wr) (fun i _ => p.length - (intOf i).toNat)
        case atStart => exact ⟨0, rfl, Nat.zero_le _, fun _ h => absurd h (Nat.not_lt_zero _), hbx⟩
        case round =>
          clear hbx
          obtain ⟨k, rfl, hk, hok2, hbl⟩ := hrel
          have Hok2 := Lib.hid hok2
          clear hok2
          obtain ⟨k0, kj⟩ := HC.out wr hbl
          clear k0
          by_cases hlt2 : k < p.length
          · obtain ⟨bp, op, rfl, hcp, _⟩ := (hpin.mono (Same.of_below hbl)) k hlt2
            obtain ⟨x, hx⟩ : ∃ x, p.getD k 0 = x := ⟨_, rfl⟩
            rw [hx] at hcp
            have Hx := Lib.hid hx
            clear hx
            have w5 : (k : Int) < (p.length : Int) := by omega
            by_cases g2 : x < -8388607
            · go_wp2_with fail
              go_ret
              refine ⟨ret_bool ?_, hbl⟩
              refine (Hno.out j hlt ?_).symm
              rw [Hp.out]
              have : within 8388607 p = false := all_no_at (d := 0) hlt2 (by rw [Hx.out]; simp [inB]; omega)
              simp [rowOk, this]
            · by_cases g3 : 8388607 < x
              · go_wp2_with fail
                go_ret
                refine ⟨ret_bool ?_, hbl⟩
                refine (Hno.out j hlt ?_).symm
                rw [Hp.out]
                have : within 8388607 p = false := all_no_at (d := 0) hlt2 (by rw [Hx.out]; simp [inB]; omega)
                simp [rowOk, this]
              · go_wp2_with fail
                go_roundw
                case rel =>
                  refine ⟨k + 1, by go_num, by omega, fun q hq => ?_, hbl⟩
                  by_cases ej : q = k
                  · subst ej; rw [Hx.out]; simp [inB]; omega
                  · exact Hok2.out q (by omega)
                case measure => simp [intOf]; omega
          · have w5 : ¬ (k : Int) < (p.length : Int) := by omega
            have hall : within 8388607 p = true := all_yes_of (d := 0) fun q hq => Hok2.out q (by omega)
            have Hall := Lib.hid hall
            clear hall
            go_wp2_with fail
            go_roundw
            case rel =>
              refine ⟨j + 1, by go_num, by omega, fun q hq => ?_, fun _ => by have := G1.out; have := G4.out; omega, hbl⟩
              by_cases ej : q = j
              · subst ej; rw [Hp.out]; simp [rowOk, G1.out, Hall.out]
              · exact Hok.out q (by omega)
            case measure => simp [intOf]; omega
      · have e1 : ((p.length : Int) != (C : Int)) = true := by simp; omega
        have G1 := Lib.hid g1
        clear g1
        go_wp2_with fail
        go_quiet (fail)
        go_wp2_with fail
        go_ret
        refine ⟨ret_bool ?_, below_drewN hbl _⟩
        exact (Hno.out j hlt (by rw [Hp.out]; simp [rowOk, G1.out])).symm
    · have w4 : ¬ (j : Int) < (m.length : Int) := by omega
      have hR := Hyes.out fun q hq => Hok.out q (by omega)
      by_cases hpos : 0 < m.length
      · obtain ⟨ba, off, a0, c0, rfl, hc0⟩ := Hz.out hpos
        have k0 := (Same.of_below hbl).cell hc0
        clear hc0
        have hposI : (0 : Int) < (m.length : Int) := by omega
        have h1 : (1 : Int) ≤ (m.length : Int) := by omega
        by_cases h2 : (m.length : Int) ≤ 8
        · have hb : R = true := by rw [hR]; have := Hjc.out (by omega); simp [chB, frB]; omega
          subst hb
          clear hR
          go_wp2_with fail
          go_ret
          exact ⟨rfl, hbl⟩
        · have hb : R = false := by rw [hR]; simp [chB]; omega
          subst hb
          clear hR
          go_wp2_with fail
          go_ret
          exact ⟨rfl, hbl⟩
      · have h1 : ¬ (1 : Int) ≤ (m.length : Int) := by omega
        have hb : R = false := by rw [hR]; simp [chB]; omega
        subst hb
        clear hR
        go_wp2_with fail
        go_ret
        exact ⟨rfl, hbl⟩
end Go.Proofs.Ytegomicpolnpoaa
