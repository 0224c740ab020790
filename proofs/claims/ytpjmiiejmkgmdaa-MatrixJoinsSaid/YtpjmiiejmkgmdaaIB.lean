/- A row made normal. -/
import Derived.Test.YtpjmiiejmkgmdaaIA
namespace Go.Proofs.Ytpjmiiejmkgmdaa
open Go.RowKit Go.Deep

/-- Scaled up to number k. -/
def scF (l : List Int) (k i : Nat) : Int := if i < k then (l.getD i 0 * 65536).tdiv (sumA l) else l.getD i 0
theorem RowN.sc {B : Nat} {w : World} {g k : Nat} {l : List Int} (h : RowN B w g l.length (scF l k)) (hk : k < l.length) :
    RowN B (w.setCell ⟨g, k, none⟩ (.int .i64 ((l.getD k 0 * 65536).tdiv (sumA l)))) g l.length (scF l (k + 1)) := by
  refine (h.set hk _).congr fun i hi => ?_
  unfold scF
  by_cases e : i = k
  · subst e; simp
  · rw [if_neg e]
    by_cases h2 : i < k
    · rw [if_pos h2, if_pos (by omega)]
    · rw [if_neg h2, if_neg (by omega)]

set_option maxHeartbeats 2000000 in
set_option maxRecDepth 100000 in
theorem normal_any (l : List Int) (v : Value) (w : World) (hv : RowIn w l v) (h1 : 1 ≤ l.length) (h2 : l.length ≤ 8) (hb : ∀ k, (l.getD k 0).natAbs ≤ 655360) :
    Calls Try.prog 60 #[v] w fun e w' => ∃ g cap, e = .returned (.slice (some ⟨g, 0, none⟩) l.length cap) ∧ l.length ≤ cap ∧ RowN w.heap.size w' g l.length (fun i => scaled l (l.getD i 0)) ∧ Below w.heap.size w w' := by
  have hcl := clone_any l v w hv h1 (by omega)
  obtain ⟨a, ca, rfl, hin, hal, hcap⟩ := hv
  have HCL := Lib.hid hcl
  have HB := Lib.hid hb
  have hsb := sumTo_bd hb
  have HSB := Lib.hid hsb
  clear hcl hb hsb
  go_enter Try.func60, Try.ntmps60
  go_wp2_with fail
  go_loop [3, 11] (fun s i => ∃ k : Nat, i = .int .i64 k ∧ k ≤ l.length ∧ s = .int .i64 (sumTo l k)) (fun _ i => l.length - (intOf i).toNat)
  case atStart => exact ⟨0, rfl, Nat.zero_le _, rfl⟩
  case round =>
    obtain ⟨k, rfl, hk, rfl⟩ := hrel
    by_cases hlt : k < l.length
    · obtain ⟨ba, off, rfl, hc, _⟩ := hin k hlt
      have hxb := HB.out k
      have hS := HSB.out k
      have hsc := sumTo_succ l k
      obtain ⟨x, hx⟩ : ∃ x, l.getD k 0 = x := ⟨_, rfl⟩
      obtain ⟨s, hs⟩ : ∃ s, sumTo l k = s := ⟨_, rfl⟩
      rw [hx] at hc hxb hsc
      rw [hs] at hS hsc ⊢
      unfold absI at hsc
      have HSC := Lib.hid hsc
      have x1 : -655360 ≤ x := by omega
      have x2 : x ≤ 655360 := by omega
      obtain ⟨s1, s2⟩ := hS
      have s3 : s ≤ 5242880 := by omega
      have w4 : (k : Int) < (l.length : Int) := by omega
      clear hx hs hsc hxb s2
      go_wp2_with fail
      all_goals
        go_round
        case rel => exact ⟨k + 1, by go_num, by omega, by rw [HSC.out]⟩
        case measure => simp [intOf]; omega
    · have w4 : ¬ (k : Int) < (l.length : Int) := by omega
      obtain rfl : k = l.length := by omega
      have hS := HSB.out l.length
      have hsA : sumTo l l.length = sumA l := rfl
      rw [hsA] at hS ⊢
      obtain ⟨s, hs⟩ : ∃ s, sumA l = s := ⟨_, rfl⟩
      rw [hs] at hS ⊢
      obtain ⟨s1, s2⟩ := hS
      have s3 : s ≤ 5242880 := by omega
      have HS := Lib.hid hs
      clear hs hsA s2
      by_cases hle : s ≤ 65536
      · go_wp2_with (go_at_call 79; (with_reducible refine HCL.out.mono ?_); rintro e w1 ⟨g, cap, rfl, hgc, hrow, hbl⟩; have HR := Lib.hid hrow; have HBL := Lib.hid hbl; clear hrow hbl)
        go_ret
        exact ⟨g, cap, rfl, hgc, HR.out.congr fun i _ => by unfold scaled; rw [HS.out, if_pos hle], HBL.out⟩
      · go_upto_region 6 with (go_at_call 79; (with_reducible refine HCL.out.mono ?_); rintro e w1 ⟨g, cap, rfl, hgc, hrow, hbl⟩; have HR := Lib.hid hrow; have HBL := Lib.hid hbl; clear hrow hbl)
        go_wp2_with (go_at_call 79; (with_reducible refine HCL.out.mono ?_); rintro e w1 ⟨g, cap, rfl, hgc, hrow, hbl⟩; have HR := Lib.hid hrow; have HBL := Lib.hid hbl; clear hrow hbl)
        go_loopw [29] (fun i wr => ∃ k : Nat, i = .int .i64 k ∧ k ≤ l.length ∧ RowN w.heap.size wr g l.length (scF l k) ∧ Below w.heap.size w wr) (fun i _ => l.length - (intOf i).toNat)
        case atStart => exact ⟨0, rfl, Nat.zero_le _, HR.out.congr fun i _ => by simp [scF], HBL.out⟩
        case round =>
          clear HR HBL
          obtain ⟨k, rfl, hk, hrow, hbl⟩ := hrel
          by_cases hlt2 : k < l.length
          · obtain ⟨ba, off, rfl, hc, _⟩ := (hin.mono (Same.of_below hbl)) k hlt2
            have hgc1 := hrow.cell k hlt2
            have hgf := hrow.free k
            have hxb := HB.out k
            have hset := hrow.sc hlt2
            have hlo := hrow.lo
            have hne : g ≠ ba ∨ True := .inr trivial
            obtain ⟨x, hx⟩ : ∃ x, l.getD k 0 = x := ⟨_, rfl⟩
            rw [hx] at hc hxb hset
            rw [HS.out] at hset
            have x1 : -655360 ≤ x := by omega
            have x2 : x ≤ 655360 := by omega
            have htd := abs_tdiv (x * 65536) s
            have t1 : -42949672960 ≤ (x * 65536).tdiv s := by omega
            have t2 : (x * 65536).tdiv s ≤ 42949672960 := by omega
            have hs0 : ¬ s = 0 := by omega
            have w4 : (k : Int) < (l.length : Int) := by omega
            have HSET := Lib.hid hset
            have HBL := Lib.hid hbl
            clear hx hxb hset hrow hbl htd
            go_wp2_with fail
            exact ⟨⟨k + 1, by go_num, by omega, HSET.out, HBL.out.setCell hlo _⟩, by simp [intOf]; omega⟩
          · have w4 : ¬ (k : Int) < (l.length : Int) := by omega
            obtain rfl : k = l.length := by omega
            have HR := Lib.hid hrow
            have HBL := Lib.hid hbl
            clear hrow hbl
            go_wp2_with fail
            go_ret
            exact ⟨g, cap, rfl, hgc, HR.out.congr fun i hi => (by
              show scF l l.length i = scaled l (l.getD i 0)
              unfold scF scaled
              rw [HS.out, if_pos hi, if_neg (show ¬ s ≤ 65536 by omega)]), HBL.out⟩
end Go.Proofs.Ytpjmiiejmkgmdaa
