/- The document's Apply and Normal. -/
import Derived.Test.YtpjmiiejmkgmdaaLC
import Derived.Test.YtpjmiiejmkgmdaaJA
import Derived.Test.YtpjmiiejmkgmdaaDA
namespace Go.Proofs.Ytpjmiiejmkgmdaa
open Go.RowKit Go.Deep

set_option maxHeartbeats 2000000 in
set_option maxRecDepth 100000 in
theorem refApply_any (m b : List (List Int)) (va vb : Value) (w : World) (ha : MatIn w m va) (hb : MatIn w b vb) : Calls Try.prog 32 #[va, vb] w (MatAns w (applyR m b) (applyE m b)) := by
  have h34 := refValidMatrix_any m va w ha
  have H36 := Lib.hid (fun (x : World) (hx : Below w.heap.size w x) => refValidBlock_any b vb x (hb.mono (Same.of_below hx)))
  cases hvm : validM m with
  | false =>
    rw [hvm] at h34
    rw [show applyE m b = 1 by simp [applyE, hvm], show applyR m b = [] by simp [applyR, applyE, hvm]]
    clear hvm ha hb
    go_enter Try.func32, Try.ntmps32
    go_wp2_with (go_at_call 34; (with_reducible refine h34.mono ?_); rintro e w1 ⟨rfl, b1⟩)
    go_ret2
    exact ⟨_, rfl, mat_nil _, b1⟩
  | true =>
    rw [hvm] at h34
    cases hvb : validB b with
    | false =>
      rw [hvb] at H36
      rw [show applyE m b = 1 by simp [applyE, hvb], show applyR m b = [] by simp [applyR, applyE, hvb]]
      clear hvm hvb ha hb
      go_enter Try.func32, Try.ntmps32
      go_wp2_with (first | (go_at_call 34; (with_reducible refine h34.mono ?_); rintro e w1 ⟨rfl, b1⟩; have B1 := Lib.hid b1; clear b1) | (go_at_call 36; (with_reducible refine (H36.out _ B1.out).mono ?_); rintro e w2 ⟨rfl, b2⟩))
      go_ret2
      exact ⟨_, rfl, mat_nil _, Below.then B1.out (Nat.le_refl _) b2⟩
    | true =>
      rw [hvb] at H36
      have H65 := Lib.hid (fun (hsz : b.length = cols m) (x : World) (hx : Below w.heap.size w x) => applied_any m b va vb x (ha.mono (Same.of_below hx)) (hb.mono (Same.of_below hx)) hvm hvb hsz)
      obtain ⟨pm1, _, _, _⟩ := validM_parts hvm
      obtain ⟨a, ca, rfl, hin, _, _⟩ := id ha
      obtain ⟨b0, cb, rfl, _, _, _⟩ := id hb
      obtain ⟨bq, oq, uq, rfl, hcq, hu⟩ := hin 0 (by omega)
      obtain ⟨au, cu, rfl, _, _, _⟩ := hu
      change w.cell? _ = some (Value.slice au (cols m) cu) at hcq
      simp only [Nat.add_zero] at hcq
      have HCQ := Lib.hid (fun (x : World) (hx : Below w.heap.size w x) => (Same.of_below hx).cell hcq)
      have hposI : (0 : Int) < (m.length : Int) := by omega
      have hposN : 0 < m.length := by omega
      by_cases hsz : b.length = cols m
      · have H65' := Lib.hid (H65.out hsz)
        rw [show applyE m b = 0 by simp [applyE, hvm, hvb, hsz], show applyR m b = applyM m b by simp [applyR, applyE, hvm, hvb, hsz]]
        have hne : ((cols m : Int) != (b.length : Int)) = false := by simp; omega
        obtain ⟨C, hC⟩ : ∃ C, cols m = C := ⟨_, rfl⟩
        rw [hC] at HCQ hne
        clear hvm hvb ha hb hin hcq hsz hC H65
        go_enter Try.func32, Try.ntmps32
        go_wp2_with (first
          | (go_at_call 34; (with_reducible refine h34.mono ?_); rintro e w1 ⟨rfl, b1⟩; have B1 := Lib.hid b1; clear b1)
          | (go_at_call 36; (with_reducible refine (H36.out _ B1.out).mono ?_); rintro e w2 ⟨rfl, b2⟩; have B2 := Lib.hid (Below.then B1.out (Nat.le_refl _) b2); have c2 := HCQ.out _ B2.out; clear b2)
          | (go_at_call 65; (with_reducible refine (H65'.out _ B2.out).mono ?_); rintro e w3 ⟨u, rfl, hu3, b3⟩; have HU := Lib.hid hu3; clear hu3))
        go_ret2
        exact ⟨_, rfl, HU.out, Below.then B2.out (Nat.le_refl _) b3⟩
      · rw [show applyE m b = 11 by simp [applyE, hvm, hvb, hsz], show applyR m b = [] by simp [applyR, applyE, hvm, hvb, hsz]]
        have hne : ((cols m : Int) != (b.length : Int)) = true := by simp; omega
        obtain ⟨C, hC⟩ : ∃ C, cols m = C := ⟨_, rfl⟩
        rw [hC] at HCQ hne
        clear hvm hvb ha hb hin hcq hsz hC H65
        go_enter Try.func32, Try.ntmps32
        go_wp2_with (first
          | (go_at_call 34; (with_reducible refine h34.mono ?_); rintro e w1 ⟨rfl, b1⟩; have B1 := Lib.hid b1; clear b1)
          | (go_at_call 36; (with_reducible refine (H36.out _ B1.out).mono ?_); rintro e w2 ⟨rfl, b2⟩; have B2 := Lib.hid (Below.then B1.out (Nat.le_refl _) b2); have c2 := HCQ.out _ B2.out; clear b2))
        go_ret2
        exact ⟨_, rfl, mat_nil _, B2.out⟩

/-- What the grid of normal rows holds when row i is done up to number k. -/
def nmF (m : List (List Int)) (i k j x : Nat) : Int := if j < i ∨ (j = i ∧ x < k) then scaled (m.getD j []) ((m.getD j []).getD x 0) else 0
theorem Gn.nm {B g r c : Nat} {gs : Nat → Nat} {m : List (List Int)} {W : World} {i k : Nat} {y : Int} (h : Gn B g gs r c (nmF m i k) W) (hi : i < r) (hy : y = scaled (m.getD i []) ((m.getD i []).getD k 0)) :
    Gn B g gs r c (nmF m i (k + 1)) (W.setCell ⟨gs i, k, none⟩ (.int .i64 y)) := by
  subst hy
  refine (h.set hi k _).congr fun j x hj hx => ?_
  unfold nmF
  by_cases e : j = i ∧ x = k
  · obtain ⟨rfl, rfl⟩ := e; simp
  · rw [if_neg e]
    by_cases e2 : j < i ∨ (j = i ∧ x < k)
    · rw [if_pos e2, if_pos (by omega)]
    · rw [if_neg e2, if_neg (by omega)]
theorem Gn.nm2 {B g r c : Nat} {gs : Nat → Nat} {m : List (List Int)} {W : World} {i k : Nat} {x0 y : Int} (h : Gn B g gs r c (nmF m i k) W) (hi : i < r) (hy : y = scaled (m.getD i []) ((m.getD i []).getD k 0)) :
    Gn B g gs r c (nmF m i (k + 1)) ((W.setCell ⟨gs i, k, none⟩ (.int .i64 x0)).setCell ⟨gs i, k, none⟩ (.int .i64 y)) := by
  subst hy
  refine ((h.set hi k x0).set hi k _).congr fun j x hj hx => ?_
  unfold nmF
  by_cases e : j = i ∧ x = k
  · obtain ⟨rfl, rfl⟩ := e; simp
  · rw [if_neg e, if_neg e]
    by_cases e2 : j < i ∨ (j = i ∧ x < k)
    · rw [if_pos e2, if_pos (by omega)]
    · rw [if_neg e2, if_neg (by omega)]

set_option maxHeartbeats 2000000 in
set_option maxRecDepth 100000 in
theorem refNormal_no (m : List (List Int)) (va : Value) (w : World) (ha : MatIn w m va) (hvm : validM m = false) : Calls Try.prog 29 #[va] w (MatAns w [] 1) := by
  have h34 := refValidMatrix_any m va w ha
  rw [hvm] at h34
  clear hvm ha
  go_enter Try.func29, Try.ntmps29
  go_wp2_with (go_at_call 34; (with_reducible refine h34.mono ?_); rintro e w1 ⟨rfl, b1⟩)
  go_ret2
  exact ⟨_, rfl, mat_nil _, b1⟩
end Go.Proofs.Ytpjmiiejmkgmdaa
