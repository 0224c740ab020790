/- A ramp: what is left, the gain now, going on; on both sides. -/
import Derived.Test.YthfagnbecocgdaaHA
import Derived.Test.YthfagnbecocgdaaRA
namespace Go.Proofs.Ythfagnbecocgdaa
open Go.RowKit Go.Shelf Go.Deep

def rampV (f t n a : Int) : Value := .agg #[.int .i64 f, .int .i64 t, .int .i64 n, .int .i64 a]
/-- The gain of a ramp at its frame a. -/
def grownI (f t n a : Int) : Int := if n ≤ a then t else f + rnd ((t - f) * a) n
structure RampOk (f t n a : Int) : Prop where
  hf : 0 ≤ f ∧ f ≤ 655360
  ht : 0 ≤ t ∧ t ≤ 655360
  hn : 0 ≤ n ∧ n ≤ 1000000000
  ha : 0 ≤ a ∧ a ≤ n
theorem ramp_mul {f t a : Int} (hf : 0 ≤ f ∧ f ≤ 655360) (ht : 0 ≤ t ∧ t ≤ 655360) (ha : 0 ≤ a ∧ a ≤ 1000000000) : -655360000000000 ≤ (t - f) * a ∧ (t - f) * a ≤ 655360000000000 := by
  constructor
  · calc -655360000000000 ≤ (-655360) * a := by omega
      _ ≤ (t - f) * a := Int.mul_le_mul_of_nonneg_right (by omega) ha.1
  · calc (t - f) * a ≤ 655360 * a := Int.mul_le_mul_of_nonneg_right (by omega) ha.1
      _ ≤ 655360000000000 := by omega
theorem rnd_abs {a n B : Int} (hn : 1 ≤ n) (hB : 0 ≤ B) (h1 : -(n * B) ≤ a) (h2 : a ≤ n * B) : -B ≤ rnd a n ∧ rnd a n ≤ B := by
  have key : ∀ x : Int, 0 ≤ x → x ≤ n * B → rnd x n ≤ B := fun x h0 hx => by
    rw [rnd_nn h0]
    have : 2 * x + n < (B + 1) * (2 * n) := by
      have e : (B + 1) * (2 * n) = 2 * (n * B) + 2 * n := by rw [Int.add_mul, Int.one_mul, Int.mul_comm B, Int.mul_assoc, Int.mul_comm n]
      omega
    have := Int.ediv_lt_of_lt_mul (show 0 < 2 * n by omega) this
    omega
  by_cases h0 : 0 ≤ a
  · exact ⟨by have := rnd_lo hn h0; omega, key a h0 h2⟩
  · have h3 := key (-a) (by omega) (by omega)
    have h4 := rnd_lo (a := -a) hn (by omega)
    have h5 := rnd_neg a n hn
    omega
/-- The gain lies between the ends. -/
theorem grownI_bd {f t n a : Int} (h : RampOk f t n a) : min f t ≤ grownI f t n a ∧ grownI f t n a ≤ max f t := by
  unfold grownI
  split
  · omega
  · have hn : 1 ≤ n := by have := h.ha; omega
    have ha := h.ha
    by_cases hft : f ≤ t
    · have h0 : 0 ≤ (t - f) * a := Int.mul_nonneg (by omega) ha.1
      have h1 : (t - f) * a ≤ n * (t - f) := by rw [Int.mul_comm n]; exact Int.mul_le_mul_of_nonneg_left (by omega) (by omega)
      have h2 := rnd_abs (B := t - f) hn (by omega) (by omega) h1
      have h3 := rnd_lo hn h0
      omega
    · have e : (t - f) * a = -((f - t) * a) := by rw [← Int.neg_mul]; congr 1; omega
      have h0 : 0 ≤ (f - t) * a := Int.mul_nonneg (by omega) ha.1
      have h1 : (f - t) * a ≤ n * (f - t) := by rw [Int.mul_comm n]; exact Int.mul_le_mul_of_nonneg_left (by omega) (by omega)
      have h2 := rnd_abs (B := f - t) hn (by omega) (by omega) h1
      have h3 := rnd_lo hn h0
      rw [e, rnd_neg _ _ hn]
      omega
theorem grownI_gain {f t n a : Int} (h : RampOk f t n a) : 0 ≤ grownI f t n a ∧ grownI f t n a ≤ 655360 := by
  have := grownI_bd h
  have := h.hf
  have := h.ht
  omega

set_option maxRecDepth 100000 in
theorem left_any (f t n a : Int) (w : World) (hn : 0 ≤ n ∧ n ≤ 1000000000) (ha : 0 ≤ a ∧ a ≤ n) : Calls Try.prog 71 #[rampV f t n a] w fun e w' => e = .returned (.int .i64 (n - a)) ∧ Below w.heap.size w w' := by
  obtain ⟨n1, n2⟩ := hn
  obtain ⟨a1, a2⟩ := ha
  unfold rampV
  go_enter Try.func71, Try.ntmps71
  go_wp2_with fail
  go_ret
  exact ⟨rfl, (Below.refl _ _).alloc (Nat.le_refl _) _⟩

set_option maxHeartbeats 1000000 in
set_option maxRecDepth 100000 in
theorem now_any {f t n a : Int} (h : RampOk f t n a) (w : World) : Calls Try.prog 70 #[rampV f t n a] w fun e w' => e = .returned (.int .i64 (grownI f t n a)) ∧ Below w.heap.size w w' := by
  have h71 := fun w => left_any f t n a w h.hn h.ha
  have hm := ramp_mul h.hf h.ht ⟨h.ha.1, by have := h.ha; have := h.hn; omega⟩
  have hgb := grownI_gain h
  obtain ⟨⟨f1, f2⟩, ⟨t1, t2⟩, ⟨n1, n2⟩, a1, a2⟩ := h
  obtain ⟨m1, m2⟩ := hm
  have HB : Hid (Below w.heap.size w (w.alloc (.cells #[.int .i64 f, .int .i64 t, .int .i64 n, .int .i64 a] 77))) := Lib.hid ((Below.refl _ _).alloc (Nat.le_refl _) _)
  have HCC : Hid (∀ x, Below (w.heap.size + 1) (w.alloc (.cells #[.int .i64 f, .int .i64 t, .int .i64 n, .int .i64 a] 77)) x → (x.cell? ⟨w.heap.size, 0, none⟩ = some (.int .i64 f) ∧ x.cell? ⟨w.heap.size, 1, none⟩ = some (.int .i64 t)) ∧ x.cell? ⟨w.heap.size, 2, none⟩ = some (.int .i64 n) ∧ x.cell? ⟨w.heap.size, 3, none⟩ = some (.int .i64 a)) := Lib.hid fun x hx =>
    ⟨⟨by rw [hx.cell (by simp)]; simp [go_sem], by rw [hx.cell (by simp)]; simp [go_sem]⟩, by rw [hx.cell (by simp)]; simp [go_sem], by rw [hx.cell (by simp)]; simp [go_sem]⟩
  have H71 := Lib.hid h71
  clear h71
  unfold rampV at *
  by_cases hz : n ≤ a
  · have e0 : n - a = 0 := by omega
    rw [e0] at H71
    rw [show grownI f t n a = t by unfold grownI; rw [if_pos hz]]
    clear hgb
    go_enter Try.func70, Try.ntmps70
    go_wp2_with (go_at_call 71; (with_reducible refine (H71.out _).mono ?_); rintro e w1 ⟨rfl, hb1⟩; have hc := HCC.out _ (hb1.mono (by simp)); obtain ⟨⟨c0, c1⟩, c2, c3⟩ := hc; have HB1 := Lib.hid (Below.then HB.out (Nat.le_refl _) hb1); clear hb1)
    go_ret
    exact ⟨rfl, HB1.out⟩
  · have e0 : ¬ n - a = 0 := by omega
    have hr := fun w => rounded_any ((t - f) * a) n w (by omega) (by omega) (by omega) (by omega)
    have eg : grownI f t n a = f + rnd ((t - f) * a) n := by unfold grownI; rw [if_neg hz]
    rw [eg] at hgb ⊢
    obtain ⟨r, hrr⟩ : ∃ r, rnd ((t - f) * a) n = r := ⟨_, rfl⟩
    rw [hrr] at hr hgb ⊢
    obtain ⟨g1, g2⟩ := hgb
    have HR : Hid (∀ x, Calls Try.prog 90 #[.int .i64 ((t - f) * a), .int .i64 n] x fun e w' => e = .returned (.int .i64 r) ∧ w' = x) := Lib.hid fun x => (hr x).mono fun e w' ⟨h1, h2⟩ => ⟨h1, h2.symm⟩
    clear hr hrr eg
    go_enter Try.func70, Try.ntmps70
    go_upto_region 3 with (go_at_call 71; (with_reducible refine (H71.out _).mono ?_); rintro e w1 ⟨rfl, hb1⟩; have hc := HCC.out _ (hb1.mono (by simp)); obtain ⟨⟨c0, c1⟩, c2, c3⟩ := hc; have HB1 := Lib.hid (Below.then HB.out (Nat.le_refl _) hb1); clear hb1)
    go_quiet ((go_at_call 90; with_reducible exact Calls.quiet_of_same (HR.out _)))
    go_wp2_with fail
    go_ret
    exact ⟨rfl, below_drewN HB1.out _⟩
end Go.Proofs.Ythfagnbecocgdaa
