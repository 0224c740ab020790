/- Numbers of the document's answers. -/
import Derived.Test.YtlpdeadmiinhoaaGreatDoorGC
namespace Go.Proofs.YtlpdeadmiinhoaaGreatDoor
open Go.RowKit

theorem first_any (c : Ch) (v : Value) (most : Nat) (w : World) (hc : ChIn w c v) (hv : validC c = true) (hm : most ≤ 1000) :
    Calls Tryz.prog 54 #[v, .int .i64 most] w fun e w' => RowOut w (firstN c most) e w' := by
  unfold firstN
  cases hl : c.isList with
  | true =>
    rw [if_pos rfl]
    have h20 := (valid_list hv hl).2.2.1
    obtain ⟨kd, d, l⟩ := c
    rw [isList_iff] at hl
    simp only at hl
    rcases hl with rfl | rfl
    · exact first_list1 d l v most w hc h20 hm
    · exact first_list2 d l v most w hc h20 hm
  | false =>
    rw [if_neg (by simp)]
    obtain ⟨h1, h2⟩ := valid_sp hv hl
    exact first_sp c v most w hc hl (by omega) (by omega) h1 hm

set_option maxRecDepth 100000 in
set_option maxHeartbeats 1000000 in
theorem refNumbers_any (c : Ch) (v : Value) (most : Int) (w : World) (hc : ChIn w c v) :
    Calls Tryz.prog 13 #[v, .int .i64 most] w fun e w' => NumOut w (numList c most) (numErr c most) e w' := by
  have hc0 := hc
  obtain ⟨a, cap, rfl, _, _, _, _, _⟩ := hc
  obtain ⟨X, hX⟩ : ∃ X : Obj, X = .cells #[.int .i64 c.kind, .int .i64 c.dflt, .slice a c.list.length cap] 24 := ⟨_, rfl⟩
  have h1 := calls_in1 (In1.first w X) (refValid_any c _ _ (hc0.mono (Same.alloc w X)))
  have HC := Lib.hid fun (wr : World) (h : In1 w X wr) => In1.cells3 (hX ▸ h)
  have hXX := Lib.hid hX
  unfold numList numErr
  cases hv : validC c with
  | false =>
    rw [if_neg (by simp), if_neg (by simp)]
    rw [hv, hX] at h1
    clear hc0 hX hv
    go_enter Tryz.func13, Tryz.ntmps13
    go_wp2_with (go_at_call 15; (with_reducible refine h1.mono ?_); rintro e w1 ⟨rfl, hi1⟩)
    go_ret2
    exact numOut_nil rfl hi1.out
  | true =>
    rw [if_pos rfl, if_pos rfl]
    by_cases hm : 0 ≤ most ∧ most ≤ 1000
    · rw [if_pos hm, if_pos hm]
      have e : most = (most.toNat : Int) := by omega
      have hm' : most.toNat ≤ 1000 := by omega
      generalize most.toNat = m at e hm'
      subst e
      have hI := firstN_I64 hv m
      obtain ⟨L, hL⟩ : ∃ L, firstN c m = L := ⟨_, rfl⟩
      have HH := Lib.hid fun (wr : World) (hi : In1 w X wr) => (first_any c _ m wr (hc0.mono hi.same) hv hm').mono fun e w' h => rowOut_in1 hI hi h
      rw [hL] at HH ⊢
      rw [hv, hX] at h1
      have hm0 : (m : Int) ≤ 1000 := by omega
      have hm1 : ¬ (m : Int) < 0 := by omega
      clear hc0 hX hv hI hL hm hm'
      go_enter Tryz.func13, Tryz.ntmps13
      go_wp2_with (first
        | (go_at_call 15; (with_reducible refine h1.mono ?_); rintro e w1 ⟨rfl, hi1⟩; rw [← hXX.out] at hi1; obtain ⟨p0, p1, p2⟩ := HC.out w1 hi1)
        | (go_at_call 54; (with_reducible refine (HH.out _ hi1).mono ?_); rintro e w2 ⟨a2, cap2, rfl, g1, g2, hk3⟩))
      go_ret2
      exact ⟨a2, cap2, rfl, g1, g2, hk3.out⟩
    · rw [if_neg hm, if_neg hm]
      rw [hv, hX] at h1
      clear hc0 hX hv
      by_cases hm1 : most < 0
      · clear hm
        go_enter Tryz.func13, Tryz.ntmps13
        go_wp2_with (go_at_call 15; (with_reducible refine h1.mono ?_); rintro e w1 ⟨rfl, hi1⟩)
        go_ret2
        exact numOut_nil rfl hi1.out
      · have hm2 : 1000 < most := by omega
        clear hm
        go_enter Tryz.func13, Tryz.ntmps13
        go_wp2_with (go_at_call 15; (with_reducible refine h1.mono ?_); rintro e w1 ⟨rfl, hi1⟩)
        go_ret2
        exact numOut_nil rfl hi1.out
end Go.Proofs.YtlpdeadmiinhoaaGreatDoor
