/- The document's levels and samples. -/
import Derived.Test.YtegomicpolnpoaaSA
import Derived.Test.YtegomicpolnpoaaVC
namespace Go.Proofs.Ytegomicpolnpoaa
open Go.RowKit Go.Ev

def saysInt (v : Int) : Option (SV × List SO) → Bool
  | some (.int .i64 n, _) => decide (n = v)
  | _ => false
theorem int_run {f : FuncId} {ns : List Int} {n : Nat} {v : Int} (h : saysInt v (callAt Try.prog (fun _ => []) noHooks n f (ns.map (SV.int .i64)) []) = true) (w : World) :
    Calls Try.prog f (ns.map (Value.int .i64)).toArray w fun e w' => e = .returned (.int .i64 v) ∧ Below w.heap.size w w' := by
  unfold saysInt at h
  split at h
  · rename_i x H hc
    simp only [decide_eq_true_eq] at h
    subst h
    refine (call_run (ν := fun _ => .bool true) (noHooks_ok _ _ w) (fun g hg => absurd rfl hg) (by simpa using ints_dens _ ns) hc).mono fun e w' ⟨E', u, he, hu, hW⟩ => ?_
    simp [den] at hu; subst hu
    exact ⟨he, hW.below⟩
  · cases h

set_option maxRecDepth 100000 in
theorem refTop_runs : ((List.range 8).all fun k => saysInt (topN (bitsN (k + 1))) (callAt Try.prog (fun _ => []) noHooks 10000 34 ([((k + 1 : Nat) : Int)].map (SV.int .i64)) [])) = true := by kernel_rfl
theorem refTop_any {e : Nat} (h1 : 1 ≤ e) (h8 : e ≤ 8) (w : World) : Calls Try.prog 34 #[.int .i64 e] w fun x w' => x = .returned (.int .i64 (topN (bitsN e))) ∧ Below w.heap.size w w' := by
  have h := refTop_runs
  rw [List.all_eq_true] at h
  have := h (e - 1) (List.mem_range.2 (by omega))
  rw [show e - 1 + 1 = e by omega] at this
  exact int_run this w

theorem refBits_yes {e : Nat} (h1 : 1 ≤ e) (h8 : e ≤ 8) (w : World) : Calls Try.prog 11 #[.int .i64 e] w fun x w' => x = .returned (.tuple #[.int .i64 (bitsN e), .int .i64 0]) ∧ w = w' := by
  have e1 : ((bitsN e : Nat) : Int) = 8 * (((e : Int) + 1) / 2) := by unfold bitsN; omega
  rw [e1]
  clear e1
  have g1 : (1 : Int) ≤ e := by omega
  have g2 : (e : Int) ≤ 8 := by omega
  go_enter Try.func11, Try.ntmps11
  go_wp2_with fail
  go_ret2
  exact ⟨rfl, rfl⟩
theorem refBits_no {n : Int} (h : encB n = false) (w : World) : Calls Try.prog 11 #[.int .i64 n] w fun x w' => x = .returned (.tuple #[.int .i64 0, .int .i64 7]) ∧ w = w' := by
  rcases encB_f h with h' | h'
  · clear h
    go_enter Try.func11, Try.ntmps11
    go_wp2_with fail
    go_ret2
    exact ⟨rfl, rfl⟩
  · clear h
    have g : ¬ n < 1 := by omega
    go_enter Try.func11, Try.ntmps11
    go_wp2_with fail
    go_ret2
    exact ⟨rfl, rfl⟩
theorem unit_lo {n : Int} (h : n ≤ 2) (w : World) : Calls Try.prog 94 #[.int .i64 n] w fun x w' => x = .returned (.int .i64 65536) ∧ w = w' := by
  go_enter Try.func94, Try.ntmps94
  go_wp2_with fail
  go_ret
  exact ⟨rfl, rfl⟩
theorem unit_hi {n : Int} (h : ¬ n ≤ 2) (w : World) : Calls Try.prog 94 #[.int .i64 n] w fun x w' => x = .returned (.int .i64 256) ∧ w = w' := by
  go_enter Try.func94, Try.ntmps94
  go_wp2_with fail
  go_ret
  exact ⟨rfl, rfl⟩

theorem rnd_split {a n : Int} (h0 : 0 ≤ a) (hn : 1 ≤ n) : rnd a n = a / n + (if n - a % n ≤ a % n then 1 else 0) := by
  unfold rnd
  rw [if_neg (by omega)]
  have hr0 := Int.emod_nonneg a (show n ≠ 0 by omega)
  have hr1 := Int.emod_lt_of_pos a (show 0 < n by omega)
  have hs := Int.mul_ediv_add_emod a n
  have e : a + n / 2 = (a % n + n / 2) + n * (a / n) := by omega
  rw [e, Int.add_mul_ediv_left _ _ (show n ≠ 0 by omega)]
  have h2 : (a % n + n / 2) / n = if n - a % n ≤ a % n then 1 else 0 := by
    by_cases h : n - a % n ≤ a % n
    · rw [if_pos h]
      have l1 : 1 ≤ (a % n + n / 2) / n := (Int.le_ediv_iff_mul_le (by omega)).2 (by omega)
      have l2 : (a % n + n / 2) / n < 2 := (Int.ediv_lt_iff_lt_mul (by omega)).2 (by omega)
      omega
    · rw [if_neg h]
      exact Int.ediv_eq_zero_of_lt (by omega) (by omega)
  rw [h2]; omega

theorem refRounded_pos (a n : Int) (w : World) (h0 : 0 ≤ a) (hb : a ≤ 4611686018427387904) (hn : 1 ≤ n) (hn2 : n ≤ 16777216) : Calls Try.prog 76 #[.int .i64 a, .int .i64 n] w fun e w' => e = .returned (.int .i64 (rnd a n)) ∧ ∃ k, w' = w.drewN k := by
  rw [rnd_split h0 hn]
  have hr0 := Int.emod_nonneg a (show n ≠ 0 by omega)
  have hr1 := Int.emod_lt_of_pos a (show 0 < n by omega)
  have hq0 : 0 ≤ a / n := Int.ediv_nonneg h0 (by omega)
  have hq1 : a / n ≤ a := Int.ediv_le_self n h0
  have ht : a.tdiv n = a / n := Int.tdiv_eq_ediv_of_nonneg h0
  have hm : a.tmod n = a % n := Int.tmod_eq_emod_of_nonneg h0
  have hn0 : ¬ n = 0 := by omega
  obtain ⟨q, hq⟩ : ∃ q, a / n = q := ⟨_, rfl⟩
  obtain ⟨r, hr⟩ : ∃ r, a % n = r := ⟨_, rfl⟩
  rw [hq] at ht hq0 hq1 ⊢
  rw [hr] at hm hr0 hr1 ⊢
  by_cases hge : n - r ≤ r
  · rw [if_pos hge]
    go_enter Try.func76, Try.ntmps76
    go_wp2_with fail
    go_quiet (fail)
    go_wp2_with fail
    go_ret
    exact ⟨rfl, _, rfl⟩
  · rw [if_neg hge]
    go_enter Try.func76, Try.ntmps76
    go_wp2_with fail
    go_quiet (fail)
    go_wp2_with fail
    go_ret
    exact ⟨by simp, _, rfl⟩
theorem refRounded_any (a n : Int) (w : World) (h : -4611686018427387904 ≤ a) (hb : a ≤ 4611686018427387904) (hn : 1 ≤ n) (hn2 : n ≤ 16777216) : Calls Try.prog 76 #[.int .i64 a, .int .i64 n] w fun e w' => e = .returned (.int .i64 (rnd a n)) ∧ ∃ k, w' = w.drewN k := by
  by_cases h0 : 0 ≤ a
  · exact refRounded_pos a n w h0 hb hn hn2
  · have hp := refRounded_pos (-a) n w (by omega) (by omega) hn hn2
    have hbd := rnd_bd (a := -a) hn (by omega)
    have e : rnd a n = -rnd (-a) n := by have := rnd_neg a n; omega
    rw [e]
    obtain ⟨x, hx⟩ : ∃ x, rnd (-a) n = x := ⟨_, rfl⟩
    rw [hx] at hp hbd ⊢
    obtain ⟨hx1, hx2⟩ := hbd
    have hlt : a < 0 := by omega
    clear e hx h0
    go_enter Try.func76, Try.ntmps76
    go_wp2_with (go_at_call 76; (with_reducible refine hp.mono ?_); rintro e w1 ⟨rfl, k, rfl⟩)
    go_ret
    exact ⟨rfl, k, rfl⟩
theorem refBounded_any (n lo hi : Int) (w : World) : Calls Try.prog 95 #[.int .i64 n, .int .i64 lo, .int .i64 hi] w fun e w' => e = .returned (.int .i64 (max lo (min hi n))) ∧ w = w' := by
  go_enter Try.func95, Try.ntmps95
  go_wp2_with fail
  all_goals
    go_ret
    exact ⟨ret_int (by omega), rfl⟩
theorem max_bnd {n k : Int} (hk : 0 ≤ k) : max (-k) (min k n) = bnd n k := by unfold bnd; omega
theorem refClip_any (n : Int) (w : World) : Calls Try.prog 104 #[.int .i64 n] w fun e w' => e = .returned (.int .i64 (bnd n 8388607)) ∧ w = w' := by
  have h := refBounded_any n (-8388607) 8388607 w
  rw [show max (-8388607 : Int) (min 8388607 n) = bnd n 8388607 from max_bnd (by decide)] at h
  go_enter Try.func104, Try.ntmps104
  go_wp2_with (go_at_call 95; (with_reducible refine h.mono ?_); rintro e w1 ⟨rfl, rfl⟩)
  go_ret
  exact ⟨rfl, rfl⟩
theorem ref_channels1 (n : Int) (w : World) : Calls Try.prog 65 #[.int .i64 n] w fun e w' => e = .returned (.bool (encB n)) ∧ w = w' := by
  by_cases h1 : 1 ≤ n
  · by_cases h2 : n ≤ 8
    · rw [show encB n = true by simp [encB, h1, h2]]
      go_enter Try.func65, Try.ntmps65
      go_wp2_with fail
      go_ret
      exact ⟨rfl, rfl⟩
    · rw [show encB n = false by simp [encB, h2]]
      go_enter Try.func65, Try.ntmps65
      go_wp2_with fail
      go_ret
      exact ⟨rfl, rfl⟩
  · rw [show encB n = false by simp [encB, h1]]
    go_enter Try.func65, Try.ntmps65
    go_wp2_with fail
    go_ret
    exact ⟨rfl, rfl⟩

def okS (n : Int) : Prop := -8388607 ≤ n ∧ n ≤ 8388607
theorem lvl_hi {s : Int} (h : okS s) : lvl 32 s = 256 * s := by unfold okS at h; simp only [lvl, bnd]; omega
theorem lvl_mid {s : Int} (h : okS s) : lvl 24 s = s := by unfold okS at h; simp only [lvl, bnd]; omega
theorem bits_hi {e : Nat} (h : 7 ≤ e) (h8 : e ≤ 8) : bitsN e = 32 := by unfold bitsN; omega
theorem bits_mid {e : Nat} (h : 5 ≤ e) (h8 : e ≤ 6) : bitsN e = 24 := by unfold bitsN; omega
theorem bits_16 {e : Nat} (h : 3 ≤ e) (h8 : e ≤ 4) : bitsN e = 16 := by unfold bitsN; omega
theorem bits_8 {e : Nat} (h : 1 ≤ e) (h8 : e ≤ 2) : bitsN e = 8 := by unfold bitsN; omega
theorem lvl8 (s : Int) : bnd (rnd s 65536) (topN 8) = lvl 8 s := by simp only [lvl, topN]
theorem lvl16 (s : Int) : bnd (rnd s 256) (topN 16) = lvl 16 s := by simp only [lvl, topN]
theorem topN_bd {e : Nat} (h1 : 1 ≤ e) (h8 : e ≤ 8) : 127 ≤ topN (bitsN e) ∧ topN (bitsN e) ≤ 2147483647 :=
  four h1 h8 (p := fun k => 127 ≤ topN k ∧ topN k ≤ 2147483647) (by simp only [topN]; decide) (by simp only [topN]; decide) (by simp only [topN]; decide) (by simp only [topN]; decide)

/-- The document's level: of 8 or 16 bits, whatever the sample. -/
def BelowR (w : World) (x : Value) (e : Ending) (w' : World) : Prop := e = .returned x ∧ Below w.heap.size w w'
set_option maxRecDepth 100000 in
set_option maxHeartbeats 1000000 in
theorem levelled_lo {e : Nat} (h1 : 1 ≤ e) (h4 : e ≤ 4) (s : Int) (w : World) (a : -1099511627776 ≤ s) (b : s ≤ 1099511627776) : Calls Try.prog 56 #[.int .i64 e, .int .i64 s] w (BelowR w (.int .i64 (lvl (bitsN e) s))) := by
  have ht := refTop_any h1 (show e ≤ 8 by omega)
  have htb := topN_bd h1 (show e ≤ 8 by omega)
  obtain ⟨u, hu, hl, hun⟩ : ∃ u : Int, (u = 65536 ∨ u = 256) ∧ lvl (bitsN e) s = bnd (rnd s u) (topN (bitsN e)) ∧ ∀ w : World, Calls Try.prog 94 #[.int .i64 e] w fun x w' => x = .returned (.int .i64 u) ∧ w = w' := by
    by_cases h : e ≤ 2
    · refine ⟨65536, .inl rfl, ?_, fun w => unit_lo (by omega) w⟩
      rw [bits_8 h1 h, lvl8]
    · refine ⟨256, .inr rfl, ?_, fun w => unit_hi (by omega) w⟩
      rw [bits_16 (by omega) h4, lvl16]
  rw [hl, ← max_bnd (show 0 ≤ topN (bitsN e) by omega)]
  have hr := fun w => refRounded_any s u w (by omega) (by omega) (by omega) (by omega)
  obtain ⟨T, hT⟩ : ∃ T, topN (bitsN e) = T := ⟨_, rfl⟩
  obtain ⟨R, hR⟩ : ∃ R, rnd s u = R := ⟨_, rfl⟩
  rw [hT] at ht htb ⊢
  rw [hR] at hr ⊢
  have hb := refBounded_any R (-T) T
  obtain ⟨x, hx⟩ : ∃ x, max (-T) (min T R) = x := ⟨_, rfl⟩
  rw [hx] at hb ⊢
  obtain ⟨t1, t2⟩ := htb
  have HT := Lib.hid ht
  have HR := Lib.hid hr
  have HB := Lib.hid hb
  have HU := Lib.hid hun
  have e7 : ¬ (7 : Int) ≤ e := by omega
  have e5 : ¬ (5 : Int) ≤ e := by omega
  clear ht hr hb hun hx hR hT hl hu
  go_enter Try.func56, Try.ntmps56
  go_wp2_with (first
    | (go_at_call 94; (with_reducible refine (HU.out _).mono ?_); rintro e w1 ⟨rfl, rfl⟩)
    | (go_at_call 76; (with_reducible refine (HR.out _).mono ?_); rintro e w1 ⟨rfl, k, rfl⟩)
    | (go_at_call 34; (with_reducible refine (HT.out _).mono ?_); rintro e w1 ⟨rfl, hb⟩; have HBW := Lib.hid hb; clear hb)
    | (go_at_call 95; (with_reducible refine (HB.out _).mono ?_); rintro e w1 ⟨rfl, rfl⟩))
  go_ret
  rename_i w2 HB2
  exact ⟨rfl, Below.then (Below.then (below_drewN (Below.refl _ w) k) (Nat.le_refl _) HB2.out) (Nat.le_refl _) HBW.out⟩
set_option maxRecDepth 100000 in
set_option maxHeartbeats 1000000 in
theorem levelled_any {e : Nat} (h1 : 1 ≤ e) (h8 : e ≤ 8) (s : Int) (w : World) (h : okS s) : Calls Try.prog 56 #[.int .i64 e, .int .i64 s] w (BelowR w (.int .i64 (lvl (bitsN e) s))) := by
  by_cases h4 : e ≤ 4
  · exact levelled_lo h1 h4 s w (by unfold okS at h; omega) (by unfold okS at h; omega)
  by_cases h7 : 7 ≤ e
  · rw [bits_hi h7 h8, lvl_hi h]
    unfold okS at h
    obtain ⟨a, b⟩ := h
    have e7 : (7 : Int) ≤ e := by omega
    go_enter Try.func56, Try.ntmps56
    go_wp2_with fail
    go_ret
    exact ⟨rfl, Below.refl _ _⟩
  · rw [bits_mid (by omega) (by omega), lvl_mid h]
    have e7 : ¬ (7 : Int) ≤ e := by omega
    have e5 : (5 : Int) ≤ e := by omega
    clear h
    go_enter Try.func56, Try.ntmps56
    go_wp2_with fail
    go_ret
    exact ⟨rfl, Below.refl _ _⟩

def okL (e : Nat) (l : Int) : Prop := -topN (bitsN e) ≤ l ∧ l ≤ topN (bitsN e)
theorem okL_bd {e : Nat} (h1 : 1 ≤ e) (h8 : e ≤ 8) {l : Int} (h : okL e l) : -2147483647 ≤ l ∧ l ≤ 2147483647 := by
  have := topN_bd h1 h8; unfold okL at h; omega
theorem smp_lo {e : Nat} (h1 : 1 ≤ e) (h4 : e ≤ 2) {l : Int} (h : okL e l) : smp (bitsN e) l = l * 65536 := by
  unfold okL at h; rw [bits_8 h1 h4] at h ⊢; simp only [topN] at h; simp only [smp, bnd]; omega
theorem smp_lo2 {e : Nat} (h1 : 3 ≤ e) (h4 : e ≤ 4) {l : Int} (h : okL e l) : smp (bitsN e) l = l * 256 := by
  unfold okL at h; rw [bits_16 h1 h4] at h ⊢; simp only [topN] at h; simp only [smp, bnd]; omega
theorem smp_mid {e : Nat} (h1 : 5 ≤ e) (h4 : e ≤ 6) {l : Int} (h : okL e l) : smp (bitsN e) l = l := by
  unfold okL at h; rw [bits_mid h1 h4] at h ⊢; simp only [topN] at h; simp only [smp, bnd]; omega
theorem smp_hi {l : Int} : smp 32 l = bnd (rnd l 256) 8388607 := by simp only [smp]

set_option maxRecDepth 100000 in
set_option maxHeartbeats 1000000 in
theorem sampled_any {e : Nat} (h1 : 1 ≤ e) (h8 : e ≤ 8) (l : Int) (w : World) (h : okL e l) : Calls Try.prog 60 #[.int .i64 e, .int .i64 l] w (BelowR w (.int .i64 (smp (bitsN e) l))) := by
  have hbd := okL_bd h1 h8 h
  obtain ⟨b1, b2⟩ := hbd
  by_cases h7 : 7 ≤ e
  · rw [bits_hi h7 h8, smp_hi]
    have hr := fun w => refRounded_any l 256 w (by omega) (by omega) (by omega) (by omega)
    obtain ⟨R, hR⟩ : ∃ R, rnd l 256 = R := ⟨_, rfl⟩
    rw [hR] at hr ⊢
    have HR := Lib.hid hr
    have HC := Lib.hid (refClip_any R)
    have e7 : (7 : Int) ≤ e := by omega
    clear hr hR h
    go_enter Try.func60, Try.ntmps60
    go_wp2_with (first
      | (go_at_call 76; (with_reducible refine (HR.out _).mono ?_); rintro e w1 ⟨rfl, k, rfl⟩)
      | (go_at_call 104; (with_reducible refine (HC.out _).mono ?_); rintro e w1 ⟨rfl, rfl⟩))
    go_ret
    exact ⟨rfl, below_drewN (Below.refl _ w) k⟩
  have e7 : ¬ (7 : Int) ≤ e := by omega
  by_cases h5 : 5 ≤ e
  · rw [smp_mid h5 (by omega) h]
    have e5 : (5 : Int) ≤ e := by omega
    clear h
    go_enter Try.func60, Try.ntmps60
    go_wp2_with fail
    go_ret
    exact ⟨rfl, Below.refl _ _⟩
  have e5 : ¬ (5 : Int) ≤ e := by omega
  by_cases h2 : e ≤ 2
  · rw [smp_lo h1 h2 h]
    have HU := Lib.hid (fun w => unit_lo (show (e : Int) ≤ 2 by omega) w)
    clear h
    go_enter Try.func60, Try.ntmps60
    go_wp2_with (go_at_call 94; (with_reducible refine (HU.out _).mono ?_); rintro e w1 ⟨rfl, rfl⟩)
    go_ret
    exact ⟨rfl, Below.refl _ _⟩
  · rw [smp_lo2 (by omega) (by omega) h]
    have HU := Lib.hid (fun w => unit_hi (show ¬ (e : Int) ≤ 2 by omega) w)
    clear h
    go_enter Try.func60, Try.ntmps60
    go_wp2_with (go_at_call 94; (with_reducible refine (HU.out _).mono ?_); rintro e w1 ⟨rfl, rfl⟩)
    go_ret
    exact ⟨rfl, Below.refl _ _⟩
end Go.Proofs.Ytegomicpolnpoaa
