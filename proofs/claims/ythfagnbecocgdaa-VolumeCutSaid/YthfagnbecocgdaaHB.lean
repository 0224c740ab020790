/- Chain, Cubic, Percent: both sides. -/
import Derived.Test.YthfagnbecocgdaaHA
namespace Go.Proofs.Ythfagnbecocgdaa
open Go.RowKit Go.Shelf Go.Deep

/-- The gains of the first k in one. -/
def chn (l : List Int) : Nat → Int
  | 0 => 65536
  | k + 1 => bnd (rnd (chn l k * l.getD k 0) 65536) 655360
theorem mul_bd {x y : Int} (hx0 : 0 ≤ x) (hx : x ≤ 655360) (hy0 : 0 ≤ y) (hy : y ≤ 655360) : 0 ≤ x * y ∧ x * y ≤ 429496729600 := by
  refine ⟨Int.mul_nonneg hx0 hy0, ?_⟩
  calc x * y ≤ 655360 * y := Int.mul_le_mul_of_nonneg_right hx hy0
    _ ≤ 655360 * 655360 := Int.mul_le_mul_of_nonneg_left hy (by decide)
    _ = 429496729600 := by decide
theorem bnd_nn {a k : Int} (h : 0 ≤ a) (hk : 0 ≤ k) : 0 ≤ bnd a k ∧ bnd a k ≤ k := by unfold bnd; omega
theorem chn_bd {l : List Int} (h : allG l = true) : ∀ k, k ≤ l.length → 0 ≤ chn l k ∧ chn l k ≤ 655360
  | 0, _ => by simp [chn]
  | k + 1, hk => by
    have h1 := chn_bd h k (by omega)
    have h2 := gainB_t (all_at' (d := 0) h (show k < l.length by omega))
    have h3 := mul_bd h1.1 h1.2 h2.1 h2.2
    exact bnd_nn (rnd_lo (by decide) h3.1) (by decide)

set_option maxHeartbeats 1000000 in
set_option maxRecDepth 100000 in
theorem chain1_yes (l : List Int) (v : Value) (B : Nat) (w : World) (hc : w.cell? ⟨B, 0, none⟩ = some v) (hv : RowIn w l v) (h : allG l = true) : Calls Try.prog 88 #[at0 B] w (Gives (isV (.int .i64 (chn l l.length))) w) := by
  have hg := gains_yes h v w hv
  obtain ⟨a, ca, rfl, hin, hal, _⟩ := hv
  have hbd := chn_bd h
  have hgb := fun k (hk : k < l.length) => gainB_t (all_at' (d := 0) h hk)
  have hst : ∀ k, chn l (k + 1) = bnd (rnd (chn l k * l.getD k 0) 65536) 655360 := fun _ => rfl
  have hch0 : chn l 0 = 65536 := rfl
  have HBD := Lib.hid hbd
  have HGB := Lib.hid hgb
  have HST := Lib.hid hst
  have HC0 := Lib.hid hch0
  clear hbd hgb hst hch0 h
  generalize chn l = ch at *
  go_enter Try.func88, Try.ntmps88
  go_wp2_with (go_at_call 61; (with_reducible refine hg.mono ?_); rintro e w1 ⟨rfl, rfl⟩)
  clear hg
  go_loop [2, 9] (fun n i => ∃ j : Nat, i = .int .i64 j ∧ j ≤ l.length ∧ n = .int .i64 (ch j)) (fun _ i => l.length - (intOf i).toNat)
  case atStart => exact ⟨0, rfl, Nat.zero_le _, by rw [HC0.out]⟩
  case round =>
    obtain ⟨j, rfl, hj, rfl⟩ := hrel
    by_cases hlt : j < l.length
    · have w4 : (j : Int) < (l.length : Int) := by omega
      obtain ⟨ba, off, rfl, hcc, _⟩ := hin j hlt
      have hb := HBD.out j hj
      have hg := HGB.out j hlt
      have hs := HST.out j
      obtain ⟨x, hx⟩ : ∃ x, ch j = x := ⟨_, rfl⟩
      obtain ⟨y, hy⟩ : ∃ y, l.getD j 0 = y := ⟨_, rfl⟩
      rw [hx] at hb hs
      rw [hy] at hcc hg hs
      rw [hx]
      have hm := mul_bd hb.1 hb.2 hg.1 hg.2
      obtain ⟨m1, m2⟩ := hm
      have hr := rounded_any (x * y) 65536 w (by omega) (by omega) (by decide) (by decide)
      have hbo := bounded_any (rnd (x * y) 65536) 655360 w (by decide) (by decide)
      rw [← hs] at hbo
      have HX := Lib.hid hx
      clear hx hy hs hb hg
      go_wp2_with (first | (go_at_call 90; (with_reducible refine hr.mono ?_); rintro e w1 ⟨rfl, rfl⟩) | (go_at_call 89; (with_reducible refine hbo.mono ?_); rintro e w1 ⟨rfl, rfl⟩))
      go_round
      case rel => exact ⟨j + 1, by go_num, by omega, rfl⟩
      case measure => simp [intOf]; omega
    · have w4 : ¬ (j : Int) < (l.length : Int) := by omega
      obtain rfl : j = l.length := by omega
      go_wp2_with fail
      go_ret
      exact ⟨_, rfl, rfl, Below.refl _ _⟩
set_option maxRecDepth 100000 in
theorem chain1_no (l : List Int) (v : Value) (B : Nat) (w : World) (hc : w.cell? ⟨B, 0, none⟩ = some v) (hv : RowIn w l v) (h : allG l = false) : Calls Try.prog 88 #[at0 B] w (LeavesX 7 w) := by
  have hg := gains_no h v w hv
  obtain ⟨a, ca, rfl, _, _, _⟩ := hv
  clear h
  go_enter Try.func88, Try.ntmps88
  go_wp2_with (go_at_call 61; (with_reducible refine hg.mono ?_); rintro e w1 ⟨rfl, rfl⟩)
  exact ⟨rfl, rfl, Below.refl _ _⟩

def chainR (l : List Int) : Int := if allG l then chn l l.length else 0
def chainK (l : List Int) : Int := if allG l then 0 else 7
set_option maxRecDepth 100000 in
theorem chain_any (l : List Int) (v : Value) (w : World) (hv : RowIn w l v) : Calls Try.prog 32 #[v] w (IntAns w (chainR l) (chainK l)) := by
  have hmf := makes
  obtain ⟨X, hX⟩ : ∃ X, Obj.cells #[v] 40 = X := ⟨_, rfl⟩
  have hbel : Below w.heap.size w (w.alloc X) := (Below.refl _ w).alloc (Nat.le_refl _) _
  have hrow : ∀ Z, RowIn ((w.alloc X).alloc Z) l v := fun Z => (hv.mono (Same.alloc _ _)).mono (Same.alloc _ _)
  have hv1 : v.oneCell' = true := by obtain ⟨a, ca, rfl, _⟩ := hv; rfl
  have ce : ∀ Z, ((w.alloc X).alloc Z).cell? ⟨w.heap.size, 0, none⟩ = some v := fun Z => by
    refine (Same.alloc _ Z).cell ?_; rw [← hX]; simp [go_sem]
  cases h : allG l with
  | true =>
    rw [show chainR l = chn l l.length by simp [chainR, h], show chainK l = 0 by simp [chainK, h]]
    have hf := fitted87_ok 88 #[at0 w.heap.size] (w.alloc X) (isV (.int .i64 (chn l l.length))) (fun _ _ _ _ h => h) (enters_of Try.func88 (by kernel_rfl) rfl _) (chain1_yes l v _ _ (ce _) (hrow _) h)
    obtain ⟨a, ca, rfl, _, _, _⟩ := hv
    subst hX
    have HBL := Lib.hid hbel
    clear hbel ce hrow h
    go_enter Try.func32, Try.ntmps32
    go_wp2_with (go_at_call 87; (with_reducible refine hf.mono ?_); rintro e w1 ⟨u, rfl, rfl, hb1⟩)
    go_ret2
    exact ⟨rfl, HBL.out.trans (hb1.mono HBL.out.size)⟩
  | false =>
    rw [show chainR l = 0 by simp [chainR, h], show chainK l = 7 by simp [chainK, h]]
    have hf := fitted87_no 88 #[at0 w.heap.size] 7 (w.alloc X) (enters_of Try.func88 (by kernel_rfl) rfl _) (chain1_no l v _ _ (ce _) (hrow _) h)
    obtain ⟨a, ca, rfl, _, _, _⟩ := hv
    subst hX
    have HBL := Lib.hid hbel
    clear hbel ce hrow h
    go_enter Try.func32, Try.ntmps32
    go_wp2_with (go_at_call 87; (with_reducible refine hf.mono ?_); rintro e w1 ⟨rfl, hb1⟩)
    go_ret2
    exact ⟨rfl, HBL.out.trans (hb1.mono HBL.out.size)⟩

set_option maxHeartbeats 1000000 in
set_option maxRecDepth 100000 in
theorem refChain_any (l : List Int) (v : Value) (w : World) (hv : RowIn w l v) : Calls Try.prog 33 #[v] w (IntAns w (chainR l) (chainK l)) := by
  obtain ⟨a, ca, rfl, hin0, hal, _⟩ := hv
  have HIN := Lib.hid (fun (x : World) (hx : Below w.heap.size w x) => hin0.mono (Same.of_below hx))
  have HFIN : Hid ((∀ k, k < l.length → gainB (l.getD k 0) = true) → chainR l = chn l l.length ∧ chainK l = 0) := Lib.hid fun h => by
    have := all_yes_of' h
    have h2 : allG l = true := this
    simp [chainR, chainK, h2]
  have HNO : Hid (∀ k, k < l.length → gainB (l.getD k 0) = false → chainR l = 0 ∧ chainK l = 7) := Lib.hid fun k hk h => by
    have h2 : allG l = false := all_no_at' hk h
    simp [chainR, chainK, h2]
  have HBD : Hid (∀ j, j < l.length → (∀ k, k ≤ j → gainB (l.getD k 0) = true) → (0 ≤ chn l j ∧ chn l j ≤ 655360) ∧ (0 ≤ l.getD j 0 ∧ l.getD j 0 ≤ 655360)) := Lib.hid fun j hj h => by
    refine ⟨?_, gainB_t (h j (Nat.le_refl _))⟩
    induction j with
    | zero => simp [chn]
    | succ j ih =>
      have h1 := ih (by omega) fun k hk => h k (by omega)
      have h2 := gainB_t (h j (by omega))
      have h3 := mul_bd h1.1 h1.2 h2.1 h2.2
      exact bnd_nn (rnd_lo (by decide) h3.1) (by decide)
  have HST : Hid (∀ k, chn l (k + 1) = bnd (rnd (chn l k * l.getD k 0) 65536) 655360) := Lib.hid fun _ => rfl
  have HC0 : Hid (chn l 0 = 65536) := Lib.hid rfl
  clear hin0
  generalize chn l = ch at *
  generalize chainR l = R at *
  generalize chainK l = K at *
  go_enter Try.func33, Try.ntmps33
  go_wp2_with fail
  go_loopw [4, 5] (fun n i wr => ∃ j : Nat, i = .int .i64 j ∧ j ≤ l.length ∧ n = .int .i64 (ch j) ∧ (∀ k, k < j → gainB (l.getD k 0) = true) ∧ Below w.heap.size w wr) (fun _ i _ => l.length - (intOf i).toNat)
  case atStart => exact ⟨0, rfl, Nat.zero_le _, by rw [HC0.out], fun k hk => absurd hk (Nat.not_lt_zero _), Below.refl _ _⟩
  case round =>
    obtain ⟨j, rfl, hj, rfl, hok, hbl⟩ := hrel
    have HOK := Lib.hid hok
    clear hok
    by_cases hlt : j < l.length
    · have w4 : (j : Int) < (l.length : Int) := by omega
      obtain ⟨ba, off, rfl, hcc, _⟩ := HIN.out wr hbl j hlt
      have hb := HBD.out j hlt
      have hs := HST.out j
      have hno := HNO.out j hlt
      have hok2 : gainB (l.getD j 0) = true → ∀ k, k < j + 1 → gainB (l.getD k 0) = true := fun h k hk => by
        by_cases e : k = j
        · subst e; exact h
        · exact HOK.out k (by omega)
      obtain ⟨x, hx⟩ : ∃ x, ch j = x := ⟨_, rfl⟩
      obtain ⟨y, hy⟩ : ∃ y, l.getD j 0 = y := ⟨_, rfl⟩
      have hga := gain_any y wr
      rw [hx] at hb hs
      rw [hy] at hcc hs hb hno hok2
      rw [hx]
      cases hgy : gainB y with
      | true =>
        have hok3 := hok2 hgy
        have hb' := hb (fun k hk => hok3 k (by omega))
        rw [hgy] at hga
        obtain ⟨⟨b1, b2⟩, b3, b4⟩ := hb'
        have hm := mul_bd b1 b2 b3 b4
        obtain ⟨m1, m2⟩ := hm
        have hr := refRounded_any (x * y) 65536 wr (by omega) (by omega) (by decide) (by decide)
        have hs2 : bnd (rnd (x * y) 65536) 655360 = min (rnd (x * y) 65536) 655360 := by
          have := rnd_lo (a := x * y) (n := 65536) (by decide) m1
          unfold bnd; omega
        rw [hs2] at hs
        obtain ⟨z, hz⟩ : ∃ z, rnd (x * y) 65536 = z := ⟨_, rfl⟩
        rw [hz] at hr hs
        have HS := Lib.hid hs
        have HOK3 := Lib.hid hok3
        have HB := Lib.hid hbl
        clear hb hok2 hno hx hy hs hz hs2 hok3 hbl hgy
        go_wp2_with (first | (go_at_call 75; (with_reducible refine hga.mono ?_); rintro e w1 ⟨rfl, rfl⟩) | (go_at_call 91; (with_reducible refine hr.mono ?_); rintro e w1 ⟨rfl, m, rfl⟩))
        all_goals
          go_roundw
          case rel => exact ⟨j + 1, by go_num, by omega, by rw [HS.out]; congr 1; omega, HOK3.out, below_drewN HB.out _⟩
          case measure => simp [intOf]; omega
      | false =>
        rw [hgy] at hga
        obtain ⟨rfl, rfl⟩ := hno hgy
        clear hb hok2 hno hx hy hs hgy
        go_wp2_with (go_at_call 75; (with_reducible refine hga.mono ?_); rintro e w1 ⟨rfl, rfl⟩)
        go_ret2
        exact ⟨rfl, hbl⟩
    · have w4 : ¬ (j : Int) < (l.length : Int) := by omega
      obtain rfl : j = l.length := by omega
      obtain ⟨h1, h2⟩ := HFIN.out HOK.out
      subst h2
      rw [← h1]
      go_wp2_with fail
      go_ret2
      exact ⟨rfl, hbl⟩

/-- The gain of a percentage. -/
def cub (n : Int) : Int := rnd (n * n * n * 65536) 1000000
theorem cub_bd {n : Int} (h0 : 0 ≤ n) (h : n ≤ 200) : (0 ≤ n * n ∧ n * n ≤ 40000) ∧ (0 ≤ n * n * n ∧ n * n * n ≤ 8000000) := by
  have a1 : 0 ≤ n * n := Int.mul_nonneg h0 h0
  have a2 : n * n ≤ 40000 := by
    calc n * n ≤ 200 * n := Int.mul_le_mul_of_nonneg_right h h0
      _ ≤ 40000 := by omega
  refine ⟨⟨a1, a2⟩, Int.mul_nonneg a1 h0, ?_⟩
  calc n * n * n ≤ 40000 * n := Int.mul_le_mul_of_nonneg_right a2 h0
    _ ≤ 8000000 := by omega
def pctB (n : Int) : Bool := decide (0 ≤ n) && decide (n ≤ 200)
theorem pctB_t {g : Int} (h : pctB g = true) : 0 ≤ g ∧ g ≤ 200 := by simpa [pctB] using h
theorem pctB_f {g : Int} (h : pctB g = false) : g < 0 ∨ 200 < g := by simp [pctB] at h; omega
set_option maxRecDepth 100000 in
theorem cubic0_any {n : Int} (h : pctB n = true) (w : World) : Calls Try.prog 93 #[.int .i64 n] w fun e w' => e = .returned (.int .i64 (cub n)) ∧ w = w' := by
  obtain ⟨h1, h2⟩ := pctB_t h
  obtain ⟨⟨c1, c2⟩, c3, c4⟩ := cub_bd h1 h2
  have hr := rounded_any (n * n * n * 65536) 1000000 w (by omega) (by omega) (by decide) (by decide)
  unfold cub
  clear h
  go_enter Try.func93, Try.ntmps93
  go_wp2_with (go_at_call 90; (with_reducible refine hr.mono ?_); rintro e w1 ⟨rfl, rfl⟩)
  go_ret
  exact ⟨rfl, rfl⟩
set_option maxRecDepth 100000 in
theorem cubic1_yes {n : Int} (h : pctB n = true) (B : Nat) (w : World) (hc : w.cell? ⟨B, 0, none⟩ = some (.int .i64 n)) : Calls Try.prog 92 #[at0 B] w (Gives (isV (.int .i64 (cub n))) w) := by
  have hq := cubic0_any h w
  have hm := must_yes 7 w
  obtain ⟨h1, h2⟩ := pctB_t h
  generalize cub n = c at *
  clear h
  go_enter Try.func92, Try.ntmps92
  go_wp2_with (first | (go_at_call 50; (with_reducible refine hm.mono ?_); rintro e w1 ⟨rfl, rfl⟩) | (go_at_call 93; (with_reducible refine hq.mono ?_); rintro e w1 ⟨rfl, rfl⟩))
  go_ret
  exact ⟨_, rfl, rfl, Below.refl _ _⟩
set_option maxRecDepth 100000 in
theorem cubic1_no {n : Int} (h : pctB n = false) (B : Nat) (w : World) (hc : w.cell? ⟨B, 0, none⟩ = some (.int .i64 n)) : Calls Try.prog 92 #[at0 B] w (LeavesX 7 w) := by
  have hm := must_no 7 w
  have h1 := pctB_f h
  clear h
  by_cases h2 : 0 ≤ n
  · have h3 : ¬ n ≤ 200 := by omega
    clear h1
    go_enter Try.func92, Try.ntmps92
    go_wp2_with (go_at_call 50; (with_reducible refine hm.mono ?_); rintro e w1 ⟨rfl, rfl⟩)
    exact ⟨rfl, rfl, Below.refl _ _⟩
  · clear h1
    go_enter Try.func92, Try.ntmps92
    go_wp2_with (go_at_call 50; (with_reducible refine hm.mono ?_); rintro e w1 ⟨rfl, rfl⟩)
    exact ⟨rfl, rfl, Below.refl _ _⟩
def cubR (n : Int) : Int := if pctB n then cub n else 0
def cubK (n : Int) : Int := if pctB n then 0 else 7
set_option maxRecDepth 100000 in
theorem cubic_any (n : Int) (w : World) : Calls Try.prog 34 #[.int .i64 n] w (IntAns w (cubR n) (cubK n)) := by
  have hmf := makes
  obtain ⟨X, hX⟩ : ∃ X, Obj.cells #[.int .i64 n] 3 = X := ⟨_, rfl⟩
  have hbel : Below w.heap.size w (w.alloc X) := (Below.refl _ w).alloc (Nat.le_refl _) _
  have ce : ∀ Z, ((w.alloc X).alloc Z).cell? ⟨w.heap.size, 0, none⟩ = some (.int .i64 n) := fun Z => by
    refine (Same.alloc _ Z).cell ?_; rw [← hX]; simp [go_sem]
  cases h : pctB n with
  | true =>
    rw [show cubR n = cub n by simp [cubR, h], show cubK n = 0 by simp [cubK, h]]
    have hf := fitted87_ok 92 #[at0 w.heap.size] (w.alloc X) (isV (.int .i64 (cub n))) (fun _ _ _ _ h => h) (enters_of Try.func92 (by kernel_rfl) rfl _) (cubic1_yes h _ _ (ce _))
    subst hX
    have HBL := Lib.hid hbel
    clear hbel ce h
    go_enter Try.func34, Try.ntmps34
    go_wp2_with (go_at_call 87; (with_reducible refine hf.mono ?_); rintro e w1 ⟨u, rfl, rfl, hb1⟩)
    go_ret2
    exact ⟨rfl, HBL.out.trans (hb1.mono HBL.out.size)⟩
  | false =>
    rw [show cubR n = 0 by simp [cubR, h], show cubK n = 7 by simp [cubK, h]]
    have hf := fitted87_no 92 #[at0 w.heap.size] 7 (w.alloc X) (enters_of Try.func92 (by kernel_rfl) rfl _) (cubic1_no h _ _ (ce _))
    subst hX
    have HBL := Lib.hid hbel
    clear hbel ce h
    go_enter Try.func34, Try.ntmps34
    go_wp2_with (go_at_call 87; (with_reducible refine hf.mono ?_); rintro e w1 ⟨rfl, hb1⟩)
    go_ret2
    exact ⟨rfl, HBL.out.trans (hb1.mono HBL.out.size)⟩
set_option maxRecDepth 100000 in
theorem refCubic_yes {n : Int} (h : pctB n = true) (w : World) : Calls Try.prog 35 #[.int .i64 n] w fun e w' => e = .returned (.tuple #[.int .i64 (cub n), .int .i64 0]) ∧ ∃ m, w' = w.drewN m := by
  obtain ⟨h1, h2⟩ := pctB_t h
  obtain ⟨⟨c1, c2⟩, c3, c4⟩ := cub_bd h1 h2
  have hr := refRounded_any (n * n * n * 65536) 1000000 w (by omega) (by omega) (by decide) (by decide)
  unfold cub
  have e1 : ¬ n < 0 := by omega
  have e2 : ¬ 200 < n := by omega
  clear h
  go_enter Try.func35, Try.ntmps35
  go_wp2_with (go_at_call 91; (with_reducible refine hr.mono ?_); rintro e w1 ⟨rfl, m, rfl⟩)
  go_ret2
  exact ⟨rfl, m, rfl⟩
set_option maxRecDepth 100000 in
theorem refCubic_any (n : Int) (w : World) : Calls Try.prog 35 #[.int .i64 n] w (IntAns w (cubR n) (cubK n)) := by
  cases h : pctB n with
  | true =>
    rw [show cubR n = cub n by simp [cubR, h], show cubK n = 0 by simp [cubK, h]]
    exact (refCubic_yes h w).mono fun e w' ⟨h1, m, h2⟩ => ⟨h1, by rw [h2]; exact below_drewN (Below.refl _ _) _⟩
  | false =>
    rw [show cubR n = 0 by simp [cubR, h], show cubK n = 7 by simp [cubK, h]]
    have h1 := pctB_f h
    clear h
    by_cases h2 : n < 0
    · clear h1
      go_enter Try.func35, Try.ntmps35
      go_wp2_with fail
      go_ret2
      exact ⟨rfl, Below.refl _ _⟩
    · have h3 : 200 < n := by omega
      clear h1
      go_enter Try.func35, Try.ntmps35
      go_wp2_with fail
      go_ret2
      exact ⟨rfl, Below.refl _ _⟩
end Go.Proofs.Ythfagnbecocgdaa
