/- Cut: the program's. -/
import Derived.Test.YtegomicpolnpoaaTA
namespace Go.Proofs.Ytegomicpolnpoaa
open Go.RowKit Go.Shelf Go.Deep

theorem validB_parts {m : List (List Int)} (h : validB m = true) : 1 ≤ m.length ∧ m.length ≤ 8 ∧ cols m ≤ 4096 ∧ ∀ k, k < m.length → (m.getD k []).length = cols m := by
  unfold validB at h
  rw [Bool.and_eq_true, Bool.and_eq_true] at h
  obtain ⟨⟨h1, h2⟩, h3⟩ := h
  have := chB_t h1
  have := frB_t h2
  refine ⟨by omega, by omega, by omega, fun k hk => ?_⟩
  have := all_at (d := []) h3 hk
  simp [rowOk] at this
  exact this.1

/-- What the rows are cut to, up to row k. -/
def cutF (m : List (List Int)) (f k : Nat) (i j : Nat) : Int := if i < k then cellM m i (f + j) else 0

set_option maxHeartbeats 4000000 in
set_option maxRecDepth 100000 in
theorem cut1_pos (m : List (List Int)) (v : Value) (Bb Bf Bt : Nat) (w : World) (hM : MatIn w m v) (hv : validB m = true) (f t : Nat) (hft : f < t) (ht : t ≤ cols m)
    (k0 : w.cell? ⟨Bb, 0, none⟩ = some v) (k1 : w.cell? ⟨Bf, 0, none⟩ = some (.int .i64 f)) (k2 : w.cell? ⟨Bt, 0, none⟩ = some (.int .i64 t)) :
    Calls Try.prog 96 #[at0 Bb, at0 Bf, at0 Bt] w fun e w' => ∃ N, w.heap.size ≤ N ∧ e = .returned (.slice (some ⟨N, 0, none⟩) m.length m.length) ∧ Gr N m.length (t - f) (fun i j => cellM m i (f + j)) w' ∧ Below w.heap.size w w' := by
  have h68 := validBlock_any m v w hM
  rw [hv] at h68
  have hmu := must_yes 1 w
  have hmu2 := must_yes 7
  obtain ⟨hr1, hr8, hc, hrow⟩ := validB_parts hv
  have hsil := fun w => silent_gr (r := m.length) (c := t - f) hr1 hr8 (by omega) w
  rw [show ((t - f : Nat) : Int) = (t : Int) - f by omega] at hsil
  obtain ⟨a, ca, rfl, hin, hal, _⟩ := id hM
  obtain ⟨b0, o0, u0, rfl, hc0, a0, c0, rfl, _, _, _⟩ := hin 0 (by omega)
  simp only [Nat.add_zero] at hc0
  change w.cell? _ = some (Value.slice a0 (cols m) c0) at hc0
  have HR := Lib.hid hrow
  have HS := Lib.hid hsil
  have HMU := Lib.hid hmu2
  have hposI : (0 : Int) < (m.length : Int) := by omega
  have hposN : 0 < m.length := by omega
  have HX : Hid (∀ x, Below w.heap.size w x → x.cell? ⟨Bb, 0, none⟩ = some (.slice (some ⟨b0, o0, none⟩) m.length ca) ∧ x.cell? ⟨Bf, 0, none⟩ = some (.int .i64 f) ∧ x.cell? ⟨Bt, 0, none⟩ = some (.int .i64 t)) :=
    Lib.hid fun x hx => ⟨(Same.of_below hx).cell k0, (Same.of_below hx).cell k1, (Same.of_below hx).cell k2⟩
  have HM := Lib.hid hM
  have d1 : (f : Int) ≤ t := by omega
  have d2 : (t : Int) ≤ (cols m : Int) := by omega
  obtain ⟨C, hC⟩ : ∃ C, cols m = C := ⟨_, rfl⟩
  rw [hC] at hc0 hc d2 ht HR
  clear hrow hsil hmu2 hM hin hv hC
  go_enter Try.func96, Try.ntmps96
  go_upto_region 2 with (first
    | (go_at_call 68; (with_reducible refine h68.mono ?_); rintro e w1 ⟨rfl, rfl⟩)
    | (go_at_call 53; (with_reducible refine hmu.mono ?_); rintro e w1 ⟨rfl, rfl⟩))
  have q1 : decide (f ≤ t) = true := by simp; omega
  have q2 : decide (t ≤ C) = true := by simp; omega
  go_quiet ((go_at_call 53; exact Calls.quiet_of_same ((HMU.out _).mono fun e w' ⟨h1, h2⟩ => ⟨h1, h2.symm⟩)))
  clear k0 k1 k2 hc0 h68 hmu q1 q2
  generalize hwx : w.drewN _ = wx
  have hb0 : Below w.heap.size w wx := by rw [← hwx]; exact below_drewN (Below.refl _ w) _
  clear hwx
  obtain ⟨k0, k1, k2⟩ := HX.out _ hb0
  go_wp2_with (first
    | (go_at_call 80; (with_reducible refine (HS.out _).mono ?_); rintro e w1 ⟨rfl, hg, hb⟩; have HG := Lib.hid hg; have HB := Lib.hid (Below.then hb0 (Nat.le_refl _) hb); have hk3 := HX.out _ HB.out; obtain ⟨k0', k1', k2'⟩ := hk3; clear hg hb))
  have HN := Lib.hid hb0.size
  obtain ⟨N, hN⟩ : ∃ N, wx.heap.size = N := ⟨_, rfl⟩
  rw [hN] at HG HN ⊢
  clear k0' k1' k2' k0 k1 k2 hb0 hN
  go_loopw [38] (fun i wr => ∃ k : Nat, i = .int .i64 k ∧ k ≤ m.length ∧ Gr N m.length (t - f) (cutF m f k) wr ∧ Below w.heap.size w wr) (fun i _ => m.length - (intOf i).toNat)
  case atStart => exact ⟨0, rfl, Nat.zero_le _, HG.out.congr fun i j _ _ => by simp [cutF], HB.out⟩
  case round =>
    clear HG HB
    obtain ⟨k, rfl, hk, hg, hb⟩ := hrel
    by_cases hlt : k < m.length
    · have w4 : (k : Int) < (m.length : Int) := by omega
      obtain ⟨k0, k1, k2⟩ := HX.out _ hb
      obtain ⟨a2, ca2, e2, hin2, _, _⟩ := HM.out.mono (Same.of_below hb)
      simp only [Value.slice.injEq, true_and] at e2
      obtain ⟨rfl, rfl⟩ := e2
      obtain ⟨_, _, u, hab, hcj, hu⟩ := hin2 k hlt
      simp only [Option.some.injEq, Addr.mk.injEq, and_true] at hab
      obtain ⟨rfl, rfl⟩ := hab
      obtain ⟨aj, cj, rfl, hrin, _, hcap⟩ := hu
      have hrl := HR.out k hlt
      rw [hrl] at hcj hcap
      obtain ⟨bj, oj, rfl, _, _⟩ := hrin f (by omega)
      have hct := hg.top.cell hlt
      rw [show topZ N (t - f) m.length k = .slice (some ⟨N + 1 + k, 0, none⟩) (t - f) (t - f) by simp [topZ, hlt]] at hct
      have hsrc : ∀ j, j < t - f → wr.cell? ((⟨bj, oj + f, none⟩ : Addr).add j) = some (.int .i64 (cellM m k (f + j))) := fun j hj => by
        obtain ⟨_, _, e3, hc3, _⟩ := hrin (f + j) (by omega)
        simp only [Option.some.injEq, Addr.mk.injEq, and_true] at e3
        obtain ⟨rfl, rfl⟩ := e3
        have : (⟨bj, oj + f, none⟩ : Addr).add j = ⟨bj, oj + (f + j), none⟩ := by unfold Addr.add; split <;> simp_all [Nat.add_assoc]
        rw [this]; exact hc3
      have HSRC := Lib.hid hsrc
      have HG := Lib.hid hg
      have HB := Lib.hid hb
      have hne : ¬ cj = f := by omega
      have d3 : (f : Int) ≤ (t : Int) := by omega
      have d4 : (t : Int) ≤ (cj : Int) := by omega
      clear hsrc hg hb hin2 hrin hrl
      go_wp2_with fail
      go_still_tail 8, (by kernel_rfl)
      change wpList _ _ _ _ _ wr.drew
      refine wpList_copy_grid rfl (.tmp 46) (.tmp 50) 34 34 rfl 3 Try.underlying34 Try.one3 (some ⟨N + 1 + k, 0, none⟩) (some ⟨bj, oj + f, none⟩) (t - f) (t - f) (t - f) (cj - f) rfl rfl (N + 1 + k) 0 (t - f) _ 3 ((HG.out.rows k hlt).drew) (t - f) (fun j => cellM m k (f + j)) (by simp) (fun _ => ⟨rfl, _, rfl, HSRC.out⟩) (by omega) ?_
      intro w' hr' hg'
      have hG2 : Gr N m.length (t - f) (cutF m f (k + 1)) w' := Gr.row (W := wr.drew) ⟨HG.out.top.drew, fun j hj => (HG.out.rows j hj).drew⟩ hlt hg' (hr'.congr fun i hi => by
          unfold spl cutF; rw [if_pos (by omega), if_pos (by omega)]; simp) (fun j i _ hjk _ => by unfold cutF; by_cases e : j < k; rw [if_pos e, if_pos (by omega)]; rw [if_neg e, if_neg (by omega)])
      have hB2 : Below w.heap.size w w' := HB.out.drew.grown hg' (by have := HB.out.size; simpa using this) fun q hq => by have := HN.out; simp at hq; omega
      have HG2 := Lib.hid hG2
      have HB2 := Lib.hid hB2
      clear hr' hg' hG2 hB2
      go_wp2_with fail
      go_roundw
      case rel => exact ⟨k + 1, by go_num, by omega, HG2.out, HB2.out⟩
      case measure => simp [intOf]; omega
    · have w4 : ¬ (k : Int) < (m.length : Int) := by omega
      obtain rfl : k = m.length := by omega
      have HG := Lib.hid hg
      have HB := Lib.hid hb
      clear hg hb
      go_wp2_with fail
      go_ret
      exact ⟨N, HN.out, rfl, HG.out.congr fun i j hi _ => by unfold cutF; rw [if_pos hi], HB.out⟩
set_option maxHeartbeats 4000000 in
set_option maxRecDepth 100000 in
theorem cut1_zero (m : List (List Int)) (v : Value) (Bb Bf Bt : Nat) (w : World) (hM : MatIn w m v) (hv : validB m = true) (f : Nat) (ht : f ≤ cols m)
    (k0 : w.cell? ⟨Bb, 0, none⟩ = some v) (k1 : w.cell? ⟨Bf, 0, none⟩ = some (.int .i64 f)) (k2 : w.cell? ⟨Bt, 0, none⟩ = some (.int .i64 f)) :
    Calls Try.prog 96 #[at0 Bb, at0 Bf, at0 Bt] w fun e w' => ∃ N, w.heap.size ≤ N ∧ e = .returned (.slice (some ⟨N, 0, none⟩) m.length m.length) ∧ Gr N m.length 0 (fun i j => cellM m i (f + j)) w' ∧ Below w.heap.size w w' := by
  have h68 := validBlock_any m v w hM
  rw [hv] at h68
  have hmu := must_yes 1 w
  have hmu2 := must_yes 7
  obtain ⟨hr1, hr8, hc, hrow⟩ := validB_parts hv
  have hsil := fun w => silent_gr (r := m.length) (c := 0) hr1 hr8 (by omega) w
  rw [show ((0 : Nat) : Int) = 0 from rfl] at hsil
  obtain ⟨a, ca, rfl, hin, hal, _⟩ := id hM
  obtain ⟨b0, o0, u0, rfl, hc0, a0, c0, rfl, _, _, _⟩ := hin 0 (by omega)
  simp only [Nat.add_zero] at hc0
  change w.cell? _ = some (Value.slice a0 (cols m) c0) at hc0
  have HR := Lib.hid hrow
  have HS := Lib.hid hsil
  have HMU := Lib.hid hmu2
  have hposI : (0 : Int) < (m.length : Int) := by omega
  have hposN : 0 < m.length := by omega
  have HX : Hid (∀ x, Below w.heap.size w x → x.cell? ⟨Bb, 0, none⟩ = some (.slice (some ⟨b0, o0, none⟩) m.length ca) ∧ x.cell? ⟨Bf, 0, none⟩ = some (.int .i64 f) ∧ x.cell? ⟨Bt, 0, none⟩ = some (.int .i64 f)) :=
    Lib.hid fun x hx => ⟨(Same.of_below hx).cell k0, (Same.of_below hx).cell k1, (Same.of_below hx).cell k2⟩
  have HM := Lib.hid hM
  have d2 : (f : Int) ≤ (cols m : Int) := by omega
  obtain ⟨C, hC⟩ : ∃ C, cols m = C := ⟨_, rfl⟩
  rw [hC] at hc0 hc d2 ht HR
  clear hrow hsil hmu2 hM hin hv hC
  go_enter Try.func96, Try.ntmps96
  go_upto_region 2 with (first
    | (go_at_call 68; (with_reducible refine h68.mono ?_); rintro e w1 ⟨rfl, rfl⟩)
    | (go_at_call 53; (with_reducible refine hmu.mono ?_); rintro e w1 ⟨rfl, rfl⟩))
  have q2 : decide (f ≤ C) = true := by simp; omega
  go_quiet ((go_at_call 53; exact Calls.quiet_of_same ((HMU.out _).mono fun e w' ⟨h1, h2⟩ => ⟨h1, h2.symm⟩)))
  clear k0 k1 k2 hc0 h68 hmu q2
  generalize hwx : w.drewN _ = wx
  have hb0 : Below w.heap.size w wx := by rw [← hwx]; exact below_drewN (Below.refl _ w) _
  clear hwx
  obtain ⟨k0, k1, k2⟩ := HX.out _ hb0
  go_wp2_with (first
    | (go_at_call 80; (with_reducible refine (HS.out _).mono ?_); rintro e w1 ⟨rfl, hg, hb⟩; have HG := Lib.hid hg; have HB := Lib.hid (Below.then hb0 (Nat.le_refl _) hb); have hk3 := HX.out _ HB.out; obtain ⟨k0', k1', k2'⟩ := hk3; clear hg hb))
  have HN := Lib.hid hb0.size
  obtain ⟨N, hN⟩ : ∃ N, wx.heap.size = N := ⟨_, rfl⟩
  rw [hN] at HG HN ⊢
  clear k0' k1' k2' k0 k1 k2 hb0 hN
  go_loopw [38] (fun i wr => ∃ k : Nat, i = .int .i64 k ∧ k ≤ m.length ∧ Gr N m.length 0 (cutF m f k) wr ∧ Below w.heap.size w wr) (fun i _ => m.length - (intOf i).toNat)
  case atStart => exact ⟨0, rfl, Nat.zero_le _, HG.out.congr fun i j _ _ => by simp [cutF], HB.out⟩
  case round =>
    clear HG HB
    obtain ⟨k, rfl, hk, hg, hb⟩ := hrel
    by_cases hlt : k < m.length
    · have w4 : (k : Int) < (m.length : Int) := by omega
      obtain ⟨k0, k1, k2⟩ := HX.out _ hb
      obtain ⟨a2, ca2, e2, hin2, _, _⟩ := HM.out.mono (Same.of_below hb)
      simp only [Value.slice.injEq, true_and] at e2
      obtain ⟨rfl, rfl⟩ := e2
      obtain ⟨_, _, u, hab, hcj, hu⟩ := hin2 k hlt
      simp only [Option.some.injEq, Addr.mk.injEq, and_true] at hab
      obtain ⟨rfl, rfl⟩ := hab
      obtain ⟨aj, cj, rfl, hrin, _, hcap⟩ := hu
      have hrl := HR.out k hlt
      rw [hrl] at hcj hcap
      have hct := hg.top.cell hlt
      rw [show topZ N 0 m.length k = .slice (some ⟨N + 1 + k, 0, none⟩) 0 0 by simp [topZ, hlt]] at hct
      have HG := Lib.hid hg
      have HB := Lib.hid hb
      have d4 : (f : Int) ≤ (cj : Int) := by omega
      clear hg hb hin2 hrin hrl
      go_wp2_with fail
      go_still_tail 8, (by kernel_rfl)
      change wpList _ _ _ _ _ wr.drew
      refine wpList_copy_grid rfl (.tmp 46) (.tmp 50) 34 34 rfl 3 Try.underlying34 Try.one3 (some ⟨N + 1 + k, 0, none⟩) _ 0 0 0 _ rfl rfl (N + 1 + k) 0 0 _ 3 ((HG.out.rows k hlt).drew) 0 (fun j => cellM m k (f + j)) (by simp) (fun h => absurd h (by omega)) (by omega) ?_
      intro w' hr' hg'
      have hG2 : Gr N m.length 0 (cutF m f (k + 1)) w' := Gr.row (W := wr.drew) ⟨HG.out.top.drew, fun j hj => (HG.out.rows j hj).drew⟩ hlt hg' (hr'.congr fun i hi => by
          unfold spl cutF; rw [if_pos (by omega), if_pos (by omega)]; simp) (fun j i _ hjk _ => by unfold cutF; by_cases e : j < k; rw [if_pos e, if_pos (by omega)]; rw [if_neg e, if_neg (by omega)])
      have hB2 : Below w.heap.size w w' := HB.out.drew.grown hg' (by have := HB.out.size; simpa using this) fun q hq => by have := HN.out; simp at hq; omega
      have HG2 := Lib.hid hG2
      have HB2 := Lib.hid hB2
      clear hr' hg' hG2 hB2
      go_wp2_with fail
      go_roundw
      case rel => exact ⟨k + 1, by go_num, by omega, HG2.out, HB2.out⟩
      case measure => simp [intOf]; omega
    · have w4 : ¬ (k : Int) < (m.length : Int) := by omega
      obtain rfl : k = m.length := by omega
      have HG := Lib.hid hg
      have HB := Lib.hid hb
      clear hg hb
      go_wp2_with fail
      go_ret
      exact ⟨N, HN.out, rfl, HG.out.congr fun i j hi _ => by unfold cutF; rw [if_pos hi], HB.out⟩
end Go.Proofs.Ytegomicpolnpoaa
