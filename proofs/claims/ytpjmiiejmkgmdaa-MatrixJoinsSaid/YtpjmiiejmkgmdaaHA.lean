/- Rounding, and bringing sums to their scale. -/
import Derived.Test.YtpjmiiejmkgmdaaGC
namespace Go.Proofs.Ytpjmiiejmkgmdaa
open Go.RowKit Go.Deep

def roundI (n : Int) : Int := if n < 0 then -((-n + 32768) / 65536) else (n + 32768) / 65536
def clipI (k n : Int) : Int := min (max (roundI n) (-k)) k
theorem roundI_neg (n : Int) : roundI (-n) = -roundI n := by
  unfold roundI
  by_cases h : n < 0
  · rw [if_neg (by omega), if_pos h]; omega
  · by_cases h0 : n = 0
    · subst h0; rfl
    · rw [if_pos (by omega), if_neg h]; simp
theorem clipI_neg {k : Int} (hk : 0 ≤ k) (n : Int) : clipI k (-n) = -clipI k n := by
  unfold clipI
  rw [roundI_neg]; omega
theorem clipI_bd {k : Int} (hk : 0 ≤ k) (n : Int) : -k ≤ clipI k n ∧ clipI k n ≤ k := by unfold clipI; omega

theorem rounded_pos (n : Int) (w : World) (h : 0 ≤ n) (hb : n ≤ 1000000000000000) : Calls Try.prog 81 #[.int .i64 n] w fun e w' => e = .returned (.int .i64 (roundI n)) ∧ w = w' := by
  have e : roundI n = (n + 32768) / 65536 := by unfold roundI; rw [if_neg (by omega)]
  rw [e]
  clear e
  go_enter Try.func81, Try.ntmps81
  go_wp2_with fail
  go_ret
  exact ⟨rfl, rfl⟩
theorem rounded_any (n : Int) (w : World) (h : -1000000000000000 ≤ n) (hb : n ≤ 1000000000000000) : Calls Try.prog 81 #[.int .i64 n] w fun e w' => e = .returned (.int .i64 (roundI n)) ∧ w = w' := by
  by_cases h0 : 0 ≤ n
  · exact rounded_pos n w h0 hb
  · have hp := rounded_pos (-n) w (by omega) (by omega)
    have hbd : 0 ≤ roundI (-n) ∧ roundI (-n) ≤ 1000000000000000 := by unfold roundI; rw [if_neg (by omega)]; omega
    have e : roundI n = -roundI (-n) := by have := roundI_neg n; omega
    rw [e]
    obtain ⟨x, hx⟩ : ∃ x, roundI (-n) = x := ⟨_, rfl⟩
    rw [hx] at hp hbd ⊢
    obtain ⟨hx1, hx2⟩ := hbd
    have hlt : n < 0 := by omega
    clear e hx h0
    go_enter Try.func81, Try.ntmps81
    go_wp2_with (go_at_call 81; (with_reducible refine hp.mono ?_); rintro e w1 ⟨rfl, rfl⟩)
    go_ret
    exact ⟨rfl, rfl⟩

/-- Reduced up to row q and, in it, up to number p. -/
def redF (k : Int) (F : Nat → Nat → Int) (q p : Nat) (j f : Nat) : Int := if j < q ∨ (j = q ∧ f < p) then clipI k (F j f) else F j f
theorem Gr.red {N r c : Nat} {W : World} {k : Int} {F : Nat → Nat → Int} {q p : Nat} (h : Gr N r c (redF k F q p) W) (hq : q < r) :
    Gr N r c (redF k F q (p + 1)) (W.setCell ⟨N + 1 + q, p, none⟩ (.int .i64 (clipI k (F q p)))) := by
  refine (h.set hq p _).congr fun j f hj hf => ?_
  unfold redF
  by_cases e : j = q ∧ f = p
  · obtain ⟨rfl, rfl⟩ := e
    simp
  · rw [if_neg e]
    by_cases e2 : j < q ∨ (j = q ∧ f < p)
    · rw [if_pos e2, if_pos (by omega)]
    · rw [if_neg e2, if_neg (by omega)]

set_option maxHeartbeats 2000000 in
set_option maxRecDepth 100000 in
theorem reduce_any (N r c : Nat) (F : Nat → Nat → Int) (k : Int) (w : World) (hr : r ≤ 8) (hc : c ≤ 4096) (hg : Gr N r c F w) (hk0 : 0 ≤ k) (hk : k ≤ 8388607) (hF : ∀ j f, j < r → f < c → (F j f).natAbs ≤ 1000000000000000) :
    Calls Try.prog 64 #[.slice (some ⟨N, 0, none⟩) r r, .int .i64 k] w fun e w' => e = .returned (.tuple #[]) ∧ Gr N r c (fun j f => clipI k (F j f)) w' ∧ Below N w w' := by
  have HF := Lib.hid hF
  have HG0 := Lib.hid hg
  clear hF hg
  go_enter Try.func64, Try.ntmps64
  go_wp2_with fail
  go_loopw [10] (fun i wr => ∃ q : Nat, i = .int .i64 q ∧ q ≤ r ∧ Gr N r c (redF k F q 0) wr ∧ Below N w wr) (fun i _ => r - (intOf i).toNat)
  case atStart => exact ⟨0, rfl, Nat.zero_le _, HG0.out.congr fun j f _ _ => by simp [redF], Below.refl _ _⟩
  case round =>
    obtain ⟨q, rfl, hq, hgr, hbl⟩ := hrel
    by_cases hlt : q < r
    · have hcell := hgr.top.cell hlt
      rw [show topZ N c r q = .slice (some ⟨N + 1 + q, 0, none⟩) c c by simp [topZ, hlt]] at hcell
      have w4 : (q : Int) < (r : Int) := by omega
      have HG := Lib.hid hgr
      have HB := Lib.hid hbl
      clear hgr hbl
      go_wp2_with fail
      clear hcell
      obtain ⟨wo, rfl⟩ : ∃ wo : World, wo = wr := ⟨_, rfl⟩
      go_loopw [16] (fun i wr => ∃ p : Nat, i = .int .i64 p ∧ p ≤ c ∧ Gr N r c (redF k F q p) wr ∧ Below N w wr) (fun i _ => c - (intOf i).toNat)
      case atStart => exact ⟨0, rfl, Nat.zero_le _, HG.out, HB.out⟩
      case round =>
        obtain ⟨p, rfl, hp, hgr, hbl⟩ := hrel
        by_cases hlt2 : p < c
        · have hc1 := (hgr.rows q hlt).cell hlt2
          have hf1 := (hgr.rows q hlt).frozen p
          rw [show redF k F q p q p = F q p by simp [redF]] at hc1
          have hbd := HF.out q p hlt hlt2
          have hst := hgr.red hlt (p := p)
          have hcl : clipI k (F q p) = min (max (roundI (F q p)) (-k)) k := rfl
          have hrb : -1000000000000000 ≤ roundI (F q p) ∧ roundI (F q p) ≤ 1000000000000000 := by unfold roundI; split <;> omega
          rw [hcl] at hst
          obtain ⟨s, hs⟩ : ∃ s, F q p = s := ⟨_, rfl⟩
          rw [hs] at hc1 hbd hst hrb
          have hb1 : -1000000000000000 ≤ s := by omega
          have hb2 : s ≤ 1000000000000000 := by omega
          have hround := rounded_any s wr hb1 hb2
          obtain ⟨x, hx⟩ : ∃ x, roundI s = x := ⟨_, rfl⟩
          rw [hx] at hround hst hrb
          obtain ⟨hr1, hr2⟩ := hrb
          have HST := Lib.hid hst
          have HB2 := Lib.hid hbl
          have w5 : (p : Int) < (c : Int) := by omega
          clear hcl hs hx hbd hst hbl hgr
          go_wp2_with (go_at_call 81; (with_reducible refine hround.mono ?_); rintro e w1 ⟨rfl, rfl⟩)
          exact ⟨⟨p + 1, by go_num, by omega, HST.out, HB2.out.setCell (by show N ≤ N + 1 + q; omega) _⟩, by simp [intOf]; omega⟩
        · have w5 : ¬ (p : Int) < (c : Int) := by omega
          obtain rfl : p = c := by omega
          have HGR := Lib.hid hgr
          have HB2 := Lib.hid hbl
          clear hgr hbl
          go_wp2_with fail
          go_roundw
          case rel => exact ⟨q + 1, by go_num, by omega, HGR.out.congr (fun j f _ hf => by
            unfold redF
            by_cases e : j < q ∨ (j = q ∧ f < p)
            · rw [if_pos e, if_pos (by omega)]
            · rw [if_neg e, if_neg (by omega)]), HB2.out⟩
          case measure => simp [intOf]; omega
    · have w4 : ¬ (q : Int) < (r : Int) := by omega
      obtain rfl : q = r := by omega
      have HGR := Lib.hid hgr
      have HB2 := Lib.hid hbl
      clear hgr hbl
      go_wp2_with fail
      go_end0
      exact ⟨rfl, HGR.out.congr (fun j f hj _ => by unfold redF; rw [if_pos (by omega)]), HB2.out⟩
end Go.Proofs.Ytpjmiiejmkgmdaa
