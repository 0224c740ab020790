/- VolumeRamps' law. -/
import Derived.Test.YthfagnbecocgdaaRM
import Derived.Test.YthfagnbecocgdaaAB
import Derived.Test.YthfagnbecocgdaaJA
import Derived.Test.YthfagnbecocgdaaVC
namespace Go.Proofs.Ythfagnbecocgdaa
open Go.RowKit Go.Shelf Go.Deep

theorem MatIn.later {w w' : World} {m : List (List Int)} {v : Value} (h : MatIn w m v) (hb : Below w.heap.size w w') : MatIn w' m v := h.mono (Same.of_below hb)
theorem RowIn.later {w w' : World} {m : List Int} {v : Value} (h : RowIn w m v) (hb : Below w.heap.size w w') : RowIn w' m v := h.mono (Same.of_below hb)
theorem _root_.Go.RowKit.Below.next {w w1 w2 : World} (h : Below w.heap.size w w1) (h2 : Below w1.heap.size w1 w2) : Below w.heap.size w w2 := Below.then h (Nat.le_refl _) h2
theorem same_yes (M : List (List Int)) (va vb : Value) (w : World) (ha : MatIn w M va) (hb : MatIn w M vb) : Calls Try.prog 20 #[va, vb] w fun e w' => e = .returned (.bool true) ∧ Below w.heap.size w w' :=
  (sameBlock_any M M va vb w ha hb).mono fun e w' ⟨h1, h2⟩ => ⟨by simpa using h1, h2⟩
theorem sameR_yes (M : List Int) (va vb : Value) (w : World) (ha : RowIn w M va) (hb : RowIn w M vb) : Calls Try.prog 31 #[va, vb] w fun e w' => e = .returned (.bool true) ∧ Below w.heap.size w w' :=
  (sameRow_any M M va vb w ha hb).mono fun e w' ⟨h1, h2⟩ => ⟨by simpa using h1, h2⟩

set_option maxHeartbeats 8000000 in
set_option maxRecDepth 100000 in
theorem rampsLaw_any (b : List (List Int)) (v : Value) (f t n : Int) (hIf : I64 f) (hIt : I64 t) (w : World) (hv : MatIn w b v) : Calls Try.prog 4 #[.int .i64 f, .int .i64 t, .int .i64 n, v] w fun e w' => e = .returned (.bool true) ∧ Below w.heap.size w w' := by
  have h24 := light_any b v w hv
  have P1 := Lib.hid (apply_any b v f hIf w hv)
  have P2 := Lib.hid (fun (x : World) (hx : Below w.heap.size w x) => refApply_any b v f x (hv.later hx))
  have P3 := Lib.hid (fun (x : World) (hx : Below w.heap.size w x) => ramp_any b v f t n hIf hIt x (hv.later hx))
  have P4 := Lib.hid (fun (x : World) (hx : Below w.heap.size w x) => refRamp_any b v f t n x (hv.later hx))
  have P5 := Lib.hid (fun (x : World) => steps_any f t n hIf hIt x)
  have P6 := Lib.hid (fun (x : World) => refSteps_any f t n x)
  have HGO := Lib.hid (stepsR_goes f t n)
  have HAW := Lib.hid awake_any
  obtain ⟨a, ca, rfl, _, _, _⟩ := hv
  generalize rampM b f f 0 = M1 at *
  generalize rampK b f f 0 = K1 at *
  generalize rampM b f t n = M2 at *
  generalize rampK b f t n = K2 at *
  generalize stepsR f t n = L at *
  generalize stepsK f t n = K3 at *
  clear hIf hIt
  go_enter Try.func4, Try.ntmps4
  go_wp2_with (first
    | (go_at_call 24; (with_reducible refine h24.mono ?_); rintro e w0 ⟨sb, rfl, rfl⟩; cases sb)
    | (go_at_call 9; (with_reducible refine (HAW.out _).mono ?_); rintro e w9 ⟨rfl, b9⟩)
    | (go_at_call 25; (with_reducible refine P1.out.mono ?_); rintro e w1 ⟨u1, rfl, m1, b1⟩; have MM1 := Lib.hid m1.here; have B1 := Lib.hid b1; clear m1 b1)
    | (go_at_call 26; (with_reducible refine (P2.out _ B1.out).mono ?_); rintro e w2 ⟨u2, rfl, m2, b2⟩; have MM2 := Lib.hid m2; have B2 := Lib.hid b2; clear m2 b2)
    | (go_at_call 27; (with_reducible refine (P3.out _ (B1.out.next B2.out)).mono ?_); rintro e w3 ⟨u3, rfl, m3, b3⟩; have MM3 := Lib.hid m3.here; have B3 := Lib.hid b3; clear m3 b3)
    | (go_at_call 28; (with_reducible refine (P4.out _ ((B1.out.next B2.out).next B3.out)).mono ?_); rintro e w4 ⟨u4, rfl, m4, b4⟩; have MM4 := Lib.hid m4; have B4 := Lib.hid b4; clear m4 b4)
    | (go_at_call 29; (with_reducible refine (P5.out _).mono ?_); rintro e w5 ⟨u5, rfl, m5, b5⟩; have MM5 := Lib.hid (m5 _ fun _ _ _ => rfl); have B5 := Lib.hid b5; clear m5 b5)
    | (go_at_call 30; (with_reducible refine (P6.out _).mono ?_); rintro e w6 ⟨u6, rfl, m6, b6⟩; have MM6 := Lib.hid m6; have B6 := Lib.hid b6; clear m6 b6
       have S1 := Lib.hid (same_yes M1 u1 u2 w6 (MM1.out.later ((((B2.out.next B3.out).next B4.out).next B5.out).next B6.out)) (MM2.out.later (((B3.out.next B4.out).next B5.out).next B6.out)))
       have S2 := Lib.hid (fun (x : World) (hx : Below w6.heap.size w6 x) => same_yes M2 u3 u4 x (MM3.out.later (((B4.out.next B5.out).next B6.out).next hx)) (MM4.out.later ((B5.out.next B6.out).next hx)))
       have S3 := Lib.hid (fun (x : World) (hx : Below w6.heap.size w6 x) => sameR_yes L u5 u6 x (MM5.out.later (B6.out.next hx)) (MM6.out.later hx))
       have R5 := Lib.hid (fun (x : World) (hx : Below w6.heap.size w6 x) => MM5.out.later (B6.out.next hx))
       have BB6 := Lib.hid (((((B1.out.next B2.out).next B3.out).next B4.out).next B5.out).next B6.out)
       clear MM1 MM2 MM3 MM4 MM5 MM6)
    | (go_at_call 20; (with_reducible refine S1.out.mono ?_); rintro e w7 ⟨rfl, b7⟩; have B7 := Lib.hid b7; clear b7)
    | (go_at_call 20; (with_reducible refine (S2.out _ B7.out).mono ?_); rintro e w8 ⟨rfl, b8⟩; have B8 := Lib.hid (B7.out.next b8); clear b8)
    | (go_at_call 31; (with_reducible refine (S3.out _ B8.out).mono ?_); rintro e w9 ⟨rfl, b9⟩; have B9 := Lib.hid (B8.out.next b9); clear b9))
  · go_ret
    exact ⟨rfl, b9⟩
  obtain ⟨a5, c5, rfl, _, hl5, _⟩ := R5.out w9 B9.out
  have HIN := Lib.hid (fun (x : World) (hx : Below w9.heap.size w9 x) => show IntsIn x a5 L from by
    obtain ⟨a6, c6, e6, h6, _, _⟩ := R5.out x (B9.out.next hx)
    simp only [Value.slice.injEq, true_and] at e6
    obtain ⟨rfl, _⟩ := e6
    exact h6)
  have HW := Lib.hid (BB6.out.next B9.out)
  have hLlen := HGO.out.len
  clear P1 P2 P3 P4 P5 P6 S1 S2 S3 R5 B1 B2 B3 B4 B5 B6 B7 B8 B9 BB6 h24
  go_loopw [21] (fun i wr => ∃ j : Nat, i = .int .i64 j ∧ j ≤ L.length ∧ Below w9.heap.size w9 wr) (fun i _ => L.length - (RowKit.intOf i).toNat)
  case atStart => exact ⟨0, rfl, Nat.zero_le _, Below.refl _ _⟩
  case round =>
    obtain ⟨j, rfl, hj, hb⟩ := hrel
    by_cases hlt : j < L.length
    · have w4 : (j : Int) < (L.length : Int) := by omega
      obtain ⟨bl, ol, rfl, hcj, _⟩ := HIN.out wr hb j hlt
      have hlo := HGO.out.lo j hlt
      have HB := Lib.hid hb
      by_cases hj0 : j = 0
      · subst hj0
        have hfi := HGO.out.first hlt
        rw [hfi] at hcj hlo
        have j0 : ¬ (0 : Int) < 0 := by omega
        simp only [Int.natCast_zero, Nat.add_zero] at *
        clear hb
        go_wp2_with fail
        go_quiet (fail)
        go_wp2_with fail
        go_roundw
        case rel => exact ⟨1, by go_num, by omega, below_drewN HB.out _⟩
        case measure => simp [RowKit.intOf]; omega
      · obtain ⟨k, rfl⟩ : ∃ k, j = k + 1 := ⟨j - 1, by omega⟩
        obtain ⟨_, _, e2, hck, _⟩ := HIN.out wr hb k (by omega)
        simp only [Option.some.injEq, Addr.mk.injEq, and_true] at e2
        obtain ⟨rfl, rfl⟩ := e2
        have hup := fun h => HGO.out.up h k hlt
        have hdn := fun h => HGO.out.down h k hlt
        obtain ⟨x, hx⟩ : ∃ x, L.getD (k + 1) 0 = x := ⟨_, rfl⟩
        obtain ⟨y, hy⟩ : ∃ y, L.getD k 0 = y := ⟨_, rfl⟩
        rw [hx] at hcj hlo hup hdn
        rw [hy] at hck hup hdn
        have hk1 : ((k + 1 : Nat) : Int) = (k : Int) + 1 := by omega
        rw [hk1] at w4 ⊢
        have j0 : ¬ (k : Int) + 1 = 0 := by omega
        have j1 : decide ((0 : Int) < (k : Int) + 1) = true := decide_eq_true (by omega)
        have hcj' : wr.cell? ⟨bl, ol + (k + 1), none⟩ = some (.int .i64 x) := hcj
        clear hb hx hy hk1 hcj
        have x5 : ¬ x < min f t := by omega
        have x6 : ¬ max f t < x := by omega
        rcases Int.lt_trichotomy f t with h | h | h
        · have x1 : ¬ x < f := by omega
          have x2 : ¬ t < x := by omega
          have x3 : ¬ t ≤ f := by omega
          have d1 : decide (f ≤ t) = true := decide_eq_true (by omega)
          have d2 : decide (t ≤ f) = false := decide_eq_false (by omega)
          have d3 : decide (x < y) = false := decide_eq_false (by have := hup (by omega); omega)
          clear hup hdn hlo
          go_wp2_with fail
          go_quiet (fail)
          go_wp2_with fail
          go_roundw
          case rel => exact ⟨k + 2, by go_num, by omega, below_drewN HB.out _⟩
          case measure => simp [RowKit.intOf]; omega
        · have x1 : ¬ x < f := by omega
          have x2 : ¬ t < x := by omega
          have x3 : t ≤ f := by omega
          have x4 : f ≤ t := by omega
          have d1 : decide (f ≤ t) = true := decide_eq_true x4
          have d2 : decide (t ≤ f) = true := decide_eq_true x3
          have d3 : decide (x < y) = false := decide_eq_false (by have := hup (by omega); omega)
          have d4 : decide (y < x) = false := decide_eq_false (by have := hdn (by omega); omega)
          clear hup hdn hlo h
          go_wp2_with fail
          go_quiet (fail)
          go_wp2_with fail
          go_roundw
          case rel => exact ⟨k + 2, by go_num, by omega, below_drewN HB.out _⟩
          case measure => simp [RowKit.intOf]; omega
        · have x1 : ¬ x < t := by omega
          have x2 : ¬ f < x := by omega
          have x3 : ¬ f ≤ t := by omega
          have d1 : decide (f ≤ t) = false := decide_eq_false x3
          have d2 : decide (t ≤ f) = true := decide_eq_true (by omega)
          have d4 : decide (y < x) = false := decide_eq_false (by have := hdn (by omega); omega)
          clear hup hdn hlo
          go_wp2_with fail
          go_quiet (fail)
          go_wp2_with fail
          go_roundw
          case rel => exact ⟨k + 2, by go_num, by omega, below_drewN HB.out _⟩
          case measure => simp [RowKit.intOf]; omega
    · have w4 : ¬ (j : Int) < (L.length : Int) := by omega
      have HB := Lib.hid hb
      clear hb
      go_wp2_with (go_at_call 9; (with_reducible refine (HAW.out _).mono ?_); rintro e w10 ⟨rfl, b10⟩)
      go_ret
      exact ⟨rfl, HW.out.next (HB.out.next b10)⟩
end Go.Proofs.Ythfagnbecocgdaa
