/- The document's Ramp, Apply, Steps, whole; a ramp never goes back. -/
import Derived.Test.YthfagnbecocgdaaRJ
import Derived.Test.YthfagnbecocgdaaRL
namespace Go.Proofs.Ythfagnbecocgdaa
open Go.RowKit Go.Shelf Go.Deep

set_option maxRecDepth 100000 in
theorem refRamp_bad (b : List (List Int)) (v : Value) (f t n : Int) (w : World) (hM : MatIn w b v) (hv : validB b = false) : Calls Try.prog 28 #[.int .i64 f, .int .i64 t, .int .i64 n, v] w (MatAns w [] 1) := by
  have h44 := refValidBlock_any b v w hM
  rw [hv] at h44
  clear hv hM
  go_enter Try.func28, Try.ntmps28
  go_wp2_with (go_at_call 44; (with_reducible refine h44.mono ?_); rintro e w1 ⟨rfl, b1⟩)
  go_ret2
  exact ⟨_, rfl, mat_nil _, b1⟩
/-- The four ways in which a ramp does not fit. -/
theorem rampB_ways {f t n : Int} (h : rampB f t n = false) : gainB f = false ∨ (gainB f = true ∧ gainB t = false) ∨ (gainB f = true ∧ gainB t = true ∧ n < 0) ∨ (gainB f = true ∧ gainB t = true ∧ ¬ n < 0 ∧ 1000000000 < n) := by
  unfold rampB at h
  cases hf : gainB f with
  | false => exact .inl rfl
  | true =>
    cases ht : gainB t with
    | false => exact .inr (.inl ⟨rfl, rfl⟩)
    | true =>
      rw [hf, ht] at h
      have := timeB_f (g := n) (by simpa using h)
      by_cases h0 : n < 0
      · exact .inr (.inr (.inl ⟨rfl, rfl, h0⟩))
      · exact .inr (.inr (.inr ⟨rfl, rfl, h0, by omega⟩))
set_option maxRecDepth 100000 in
theorem refRamp_no (b : List (List Int)) (v : Value) (f t n : Int) (w : World) (hM : MatIn w b v) (hv : validB b = true) (hr : rampB f t n = false) : Calls Try.prog 28 #[.int .i64 f, .int .i64 t, .int .i64 n, v] w (MatAns w [] 7) := by
  have h44 := refValidBlock_any b v w hM
  rw [hv] at h44
  have H75 := Lib.hid (gain_any f)
  have H75t := Lib.hid (gain_any t)
  clear hv hM
  rcases rampB_ways hr with h1 | ⟨h1, h2⟩ | ⟨h1, h2, h3⟩ | ⟨h1, h2, h3, h4⟩
  all_goals
    clear hr
    first | (rw [h1] at H75; rw [h2] at H75t; clear h1 h2) | (rw [h1] at H75; clear h1)
    go_enter Try.func28, Try.ntmps28
    go_wp2_with (first
      | (go_at_call 44; (with_reducible refine h44.mono ?_); rintro e w1 ⟨rfl, b1⟩; have B1 := Lib.hid b1; clear b1)
      | (go_at_call 75; (with_reducible refine (H75.out _).mono ?_); rintro e w2 ⟨rfl, rfl⟩)
      | (go_at_call 75; (with_reducible refine (H75t.out _).mono ?_); rintro e w2 ⟨rfl, rfl⟩))
    go_ret2
    exact ⟨_, rfl, mat_nil _, B1.out⟩
theorem refRamp_any (b : List (List Int)) (v : Value) (f t n : Int) (w : World) (hM : MatIn w b v) : Calls Try.prog 28 #[.int .i64 f, .int .i64 t, .int .i64 n, v] w (MatAns w (rampM b f t n) (rampK b f t n)) := by
  cases hv : validB b with
  | false =>
    have hk : rampK b f t n = 1 := by simp [rampK, hv]
    rw [show rampM b f t n = [] by simp [rampM, hk], hk]
    exact refRamp_bad b v f t n w hM hv
  | true =>
    cases hr : rampB f t n with
    | false =>
      have hk : rampK b f t n = 7 := by simp [rampK, hv, hr]
      rw [show rampM b f t n = [] by simp [rampM, hk], hk]
      exact refRamp_no b v f t n w hM hv hr
    | true =>
      have hk : rampK b f t n = 0 := by simp [rampK, hv, hr]
      rw [show rampM b f t n = allM b (fun i => grownI f t n i) by simp [rampM, hk], hk]
      exact refRamp_yes b v f t n w hM hv hr
set_option maxRecDepth 100000 in
theorem refApply_any (b : List (List Int)) (v : Value) (g : Int) (w : World) (hM : MatIn w b v) : Calls Try.prog 26 #[.int .i64 g, v] w (MatAns w (rampM b g g 0) (rampK b g g 0)) := by
  have h28 := refRamp_any b v g g 0 w hM
  obtain ⟨a, ca, rfl, _, _, _⟩ := id hM
  generalize rampM b g g 0 = M at *
  generalize rampK b g g 0 = K at *
  clear hM
  go_enter Try.func26, Try.ntmps26
  go_wp2_with (go_at_call 28; (with_reducible refine h28.mono ?_); rintro e w1 ⟨u, rfl, hu, b1⟩; have HU := Lib.hid hu; clear hu)
  go_ret2
  exact ⟨_, rfl, HU.out, b1⟩

set_option maxHeartbeats 1000000 in
set_option maxRecDepth 100000 in
theorem refSteps_yes (f t : Int) (n : Nat) (w : World) (hr : rampB f t n = true) (hn : n ≤ 4096) : Calls Try.prog 30 #[.int .i64 f, .int .i64 t, .int .i64 n] w (RowAns w (stepsL f t n) 0) := by
  obtain ⟨i0, hi, hz0, hz1, hz2⟩ := info_parts Try.info3
  have hro := rampOk_of hr
  have H75 : Hid (∀ x, Calls Try.prog 75 #[.int .i64 f] x fun e w' => e = .returned (.bool true) ∧ x = w') := Lib.hid fun x => by
    unfold rampB at hr
    rw [Bool.and_eq_true, Bool.and_eq_true] at hr
    have := gain_any f x
    rwa [hr.1.1] at this
  have H75t : Hid (∀ x, Calls Try.prog 75 #[.int .i64 t] x fun e w' => e = .returned (.bool true) ∧ x = w') := Lib.hid fun x => by
    unfold rampB at hr
    rw [Bool.and_eq_true, Bool.and_eq_true] at hr
    have := gain_any t x
    rwa [hr.1.2] at this
  have H84 : Hid (∀ (k : Nat) (x : World), k < n → Calls Try.prog 84 #[.int .i64 f, .int .i64 t, .int .i64 n, .int .i64 k] x fun e w' => e = .returned (.int .i64 (rampG f t n 0 k)) ∧ ∃ m, w' = x.drewN m) := Lib.hid fun k x hk => by
    rw [rampG_zero (by omega)]
    exact grown_any f t n k hro.hf hro.ht hro.hn (by omega) x
  have hn1 : ¬ (n : Int) < 0 := by omega
  have hn2 : ¬ 1000000000 < (n : Int) := by omega
  have hn3 : ¬ 4096 < (n : Int) := by omega
  have HOK := Lib.hid (stepsL_ok hro hn)
  have HLEN : Hid ((stepsL f t n).length = n) := Lib.hid (by simp [stepsL])
  have HTK : Hid (∀ k, k < n → (stepsL f t n).take (k + 1) = (stepsL f t n).take k ++ [rampG f t n 0 k]) := Lib.hid fun k hk => by
    rw [take_snocD _ k 0 (by simp [stepsL]; exact hk)]
    simp [stepsL, List.getD, hk]
  clear hr hro
  generalize stepsL f t n = L at *
  go_enter Try.func30, Try.ntmps30
  go_wp2_with (first
    | (go_at_call 75; (with_reducible refine (H75.out _).mono ?_); rintro e w2 ⟨rfl, rfl⟩)
    | (go_at_call 75; (with_reducible refine (H75t.out _).mono ?_); rintro e w2 ⟨rfl, rfl⟩))
  go_loopw [8, 9] (fun v i wr => ∃ k : Nat, i = .int .i64 k ∧ k ≤ n ∧ wr.ownsRow w.heap.size 3 1 v k ((L.take k).map (Value.int .i64)) ∧ Below w.heap.size w wr) (fun _ i _ => n - (RowKit.intOf i).toNat)
  case atStart => exact ⟨0, rfl, Nat.zero_le _, World.ownsRow_nil _ _ _ _, Below.refl _ _⟩
  case round =>
    obtain ⟨k, rfl, hk, ho, hb⟩ := hrel
    by_cases hlt : k < n
    · have w4 : (k : Int) < (n : Int) := by omega
      have h84 := H84.out k wr hlt
      have htk := HTK.out k hlt
      obtain ⟨y, hy⟩ : ∃ y, rampG f t n 0 k = y := ⟨_, rfl⟩
      rw [hy] at h84 htk
      have HT := Lib.hid htk
      have HO := Lib.hid ho
      have HB := Lib.hid hb
      clear hy htk ho hb
      go_wp2_with (first
        | (go_at_call 84; (with_reducible refine h84.mono ?_); rintro e w2 ⟨rfl, m, rfl⟩)
        | (at_builtin; refine wpList_append_moves rfl (.tmp 35) (.tmp 41) 40 rfl w.heap.size 3 i0 _ 1 8 Try.underlying40 hi hz0 hz1 hz2 rfl (by decide) _ k _ rfl ((show (wr.drewN m).ownsRow w.heap.size 3 1 _ k _ from HO.out).alloc (.cells #[.int .i64 y] 3)) ⟨wr.heap.size, 0, none⟩ 1 1 [.int .i64 y] rfl rfl ?c1 ?c2 ?c3 ?c4 ?c5 ?_))
      case c1 => exact cell_one_new (wr.drewN m) (.int .i64 y) 3
      case c2 => intro x hx; simp at hx; subst hx; rfl
      case c3 => unfold maxLen; omega
      case c4 => omega
      case c5 => have := HB.out.size; simp; omega
      intro v2 w2 h21 h22 _
      have hb2 : Below w.heap.size w w2 := ((below_drewN HB.out m).alloc (by have := HB.out.size; simp; omega) _).grown h22 (by have := HB.out.size; simp; omega) fun g hg => (HO.out.lt g hg).1
      have h3 : w2.ownsRow w.heap.size 3 1 v2 (k + 1) ((L.take (k + 1)).map (Value.int .i64)) := by rw [HT.out]; simpa using h21
      have HF := Lib.hid (And.intro h3 hb2)
      clear h21 h22 hb2 h3
      go_wp2_with fail
      go_roundw
      case rel => exact ⟨k + 1, by go_num, by omega, HF.out.1, HF.out.2⟩
      case measure => simp [RowKit.intOf]; omega
    · have w4 : ¬ (k : Int) < (n : Int) := by omega
      obtain rfl : k = n := by omega
      rw [List.take_of_length_le (by rw [HLEN.out]; exact Nat.le_refl _)] at ho
      have HO := Lib.hid ho
      have HB := Lib.hid hb
      clear ho hb
      go_wp2_with fail
      go_ret2
      exact ⟨_, rfl, owns_row (by rw [HLEN.out]; exact HO.out) HOK.out (fun _ _ _ => rfl), HB.out⟩
set_option maxRecDepth 100000 in
theorem refSteps_no (f t n : Int) (w : World) (hr : rampB f t n = false) : Calls Try.prog 30 #[.int .i64 f, .int .i64 t, .int .i64 n] w (RowAns w [] 7) := by
  have H75 := Lib.hid (gain_any f)
  have H75t := Lib.hid (gain_any t)
  rcases rampB_ways hr with h1 | ⟨h1, h2⟩ | ⟨h1, h2, h3⟩ | ⟨h1, h2, h3, h4⟩
  all_goals
    clear hr
    first | (rw [h1] at H75; rw [h2] at H75t; clear h1 h2) | (rw [h1] at H75; clear h1)
    go_enter Try.func30, Try.ntmps30
    go_wp2_with (first
      | (go_at_call 75; (with_reducible refine (H75.out _).mono ?_); rintro e w2 ⟨rfl, rfl⟩)
      | (go_at_call 75; (with_reducible refine (H75t.out _).mono ?_); rintro e w2 ⟨rfl, rfl⟩))
    all_goals
      go_ret2
      exact ⟨_, rfl, row_nil _, Below.refl _ _⟩
set_option maxRecDepth 100000 in
theorem refSteps_long (f t n : Int) (w : World) (hr : rampB f t n = true) (hn : 4096 < n) : Calls Try.prog 30 #[.int .i64 f, .int .i64 t, .int .i64 n] w (RowAns w [] 4) := by
  have hro := (rampOk_of hr).hn
  have h75 := gain_any f w
  have h75t := gain_any t w
  unfold rampB at hr
  rw [Bool.and_eq_true, Bool.and_eq_true] at hr
  rw [hr.1.1] at h75
  rw [hr.1.2] at h75t
  have hn1 : ¬ n < 0 := by omega
  have hn2 : ¬ 1000000000 < n := by omega
  clear hr hro
  go_enter Try.func30, Try.ntmps30
  go_wp2_with (first
    | (go_at_call 75; (with_reducible refine h75.mono ?_); rintro e w2 ⟨rfl, rfl⟩)
    | (go_at_call 75; (with_reducible refine h75t.mono ?_); rintro e w2 ⟨rfl, rfl⟩))
  go_ret2
  exact ⟨_, rfl, row_nil _, Below.refl _ _⟩
theorem refSteps_any (f t n : Int) (w : World) : Calls Try.prog 30 #[.int .i64 f, .int .i64 t, .int .i64 n] w (RowAns w (stepsR f t n) (stepsK f t n)) := by
  cases hr : rampB f t n with
  | false =>
    have hk : stepsK f t n = 7 := by simp [stepsK, hr]
    rw [show stepsR f t n = [] by simp [stepsR, hk], hk]
    exact refSteps_no f t n w hr
  | true =>
    by_cases hn : 4096 < n
    · have hk : stepsK f t n = 4 := by simp [stepsK, hr, hn]
      rw [show stepsR f t n = [] by simp [stepsR, hk], hk]
      exact refSteps_long f t n w hr hn
    · have hk : stepsK f t n = 0 := by simp [stepsK, hr, hn]
      have hn0 := (rampOk_of hr).hn
      obtain ⟨k, rfl⟩ : ∃ k : Nat, n = k := ⟨n.toNat, by omega⟩
      rw [show stepsR f t k = stepsL f t k by simp [stepsR, hk], hk]
      exact refSteps_yes f t k w hr (by omega)

theorem rnd_mono {a b n : Int} (hn : 1 ≤ n) (h : a ≤ b) : rnd a n ≤ rnd b n := by
  have key : ∀ x y : Int, 0 ≤ x → x ≤ y → rnd x n ≤ rnd y n := fun x y h0 hxy => by
    rw [rnd_nn h0, rnd_nn (by omega)]
    exact Int.ediv_le_ediv (by omega) (by omega)
  by_cases ha : 0 ≤ a
  · exact key a b ha h
  · have h1 := rnd_neg a n hn
    have h2 := rnd_lo (a := -a) hn (by omega)
    by_cases hb : 0 ≤ b
    · have := rnd_lo hn hb
      omega
    · have h3 := rnd_neg b n hn
      have h4 := key (-b) (-a) (by omega) (by omega)
      omega
/-- What the law asks of a list of gains. -/
structure Goes (f t : Int) (L : List Int) : Prop where
  len : L.length ≤ 4096
  lo : ∀ j, j < L.length → min f t ≤ L.getD j 0 ∧ L.getD j 0 ≤ max f t
  first : 0 < L.length → L.getD 0 0 = f
  up : f ≤ t → ∀ j, j + 1 < L.length → L.getD j 0 ≤ L.getD (j + 1) 0
  down : t ≤ f → ∀ j, j + 1 < L.length → L.getD (j + 1) 0 ≤ L.getD j 0
theorem stepsL_at {f t : Int} {n j : Nat} (h : j < n) : (stepsL f t n).getD j 0 = f + rnd ((t - f) * j) n := by
  have e : (stepsL f t n).getD j 0 = rampG f t n 0 j := by simp [stepsL, List.getD, h]
  rw [e, rampG_zero (by omega)]
  unfold grownI
  rw [if_neg (by omega)]
theorem stepsL_goes {f t : Int} {n : Nat} (hr : RampOk f t n 0) (hn : n ≤ 4096) : Goes f t (stepsL f t n) := by
  have hlen : (stepsL f t n).length = n := by simp [stepsL]
  refine ⟨by omega, fun j hj => ?_, fun h => ?_, fun h j hj => ?_, fun h j hj => ?_⟩
  · rw [hlen] at hj
    have e : (stepsL f t n).getD j 0 = rampG f t n 0 j := by simp [stepsL, List.getD, hj]
    rw [e]
    exact grownI_bd (rampOk_at hr j)
  · rw [hlen] at h
    rw [stepsL_at h]
    have : rnd ((t - f) * ((0 : Nat) : Int)) n = 0 := by
      rw [show (t - f) * ((0 : Nat) : Int) = 0 by simp, rnd_nn (by omega)]
      exact Int.ediv_eq_zero_of_lt (by omega) (by omega)
    omega
  · rw [hlen] at hj
    rw [stepsL_at (by omega), stepsL_at hj]
    have := rnd_mono (n := n) (a := (t - f) * (j : Int)) (b := (t - f) * ((j + 1 : Nat) : Int)) (by omega) (Int.mul_le_mul_of_nonneg_left (by omega) (by omega))
    omega
  · rw [hlen] at hj
    rw [stepsL_at hj, stepsL_at (show j < n by omega)]
    have := rnd_mono (n := n) (a := (t - f) * ((j + 1 : Nat) : Int)) (b := (t - f) * (j : Int)) (by omega) (Int.mul_le_mul_of_nonpos_left (by omega) (by omega))
    omega
theorem stepsR_goes (f t n : Int) : Goes f t (stepsR f t n) := by
  unfold stepsR
  split
  · rename_i hk
    cases hr : rampB f t n with
    | false => simp [stepsK, hr] at hk
    | true =>
      by_cases hn : 4096 < n
      · simp [stepsK, hr, hn] at hk
      · have hro := rampOk_of hr
        have hn0 := hro.hn
        obtain ⟨k, rfl⟩ : ∃ k : Nat, n = k := ⟨n.toNat, by omega⟩
        exact stepsL_goes hro (by omega)
  · exact ⟨by simp, fun j hj => by simp at hj, fun h => by simp at h, fun _ j hj => by simp at hj, fun _ j hj => by simp at hj⟩
end Go.Proofs.Ythfagnbecocgdaa
