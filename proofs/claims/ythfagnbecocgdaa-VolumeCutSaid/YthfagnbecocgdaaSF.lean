/- done, whole; a channel turns to its target. -/
import Derived.Test.YthfagnbecocgdaaSE
namespace Go.Proofs.Ythfagnbecocgdaa
open Go.RowKit Go.Shelf Go.Deep

set_option maxRecDepth 100000 in
theorem done_yes (f : FuncId) (caps : Array Value) (R : Nat) (w : World) (hR : R < w.heap.size) (Φ : World → Prop) (hΦ : ∀ w1 w2, (∀ k, k < w.heap.size → w2.heap[k]? = w1.heap[k]?) → Φ w1 → Φ w2)
    (hcf : ∀ w : World, (callFunc f caps).run Try.prog w = .ok (.enter f caps) w)
    (hc : ∀ x, Below w.heap.size w x → Calls Try.prog f caps x fun e w' => e = .returned (.tuple #[]) ∧ Φ w' ∧ x.grownBy w' (some R)) :
    Calls Try.prog 59 #[.func (.func f) #[] caps] w fun e w' => e = .returned (.int .i64 0) ∧ Φ w' ∧ w.grownBy w' (some R) := by
  have hmf := makes
  obtain ⟨X, hX⟩ : ∃ X, w.alloc (.cells #[.func (.func f) #[] caps] 1) = X := ⟨_, rfl⟩
  have hb0 : Below w.heap.size w X := by rw [← hX]; exact (Below.refl _ w).alloc (Nat.le_refl _) _
  have hs0 : X.heap.size = w.heap.size + 1 := by rw [← hX]; simp
  have hcell : X.cell? ⟨w.heap.size, 0, none⟩ = some (.func (.func f) #[] caps) := by rw [← hX]; simp [go_sem]
  have he := enters_of Try.func110 (by kernel_rfl) rfl
  have hb1 : Below w.heap.size w ((X.alloc (.cells #[] 125)).alloc (.cells #[.int .i64 0] 26)) := (hb0.alloc (by omega) _).alloc (by simp; omega) _
  have h109 := fitted109_gb 110 #[at0 w.heap.size] X R (by omega) Φ (fun w1 w2 h => hΦ w1 w2 fun k hk => h k (by omega)) (he _)
    (done110_yes f caps w.heap.size R _ (by simp; omega) ((Same.alloc _ _).cell ((Same.alloc _ _).cell hcell)) Φ hcf (hc _ (hb1.alloc (by simp; omega) _)))
  have HB0 := Lib.hid (gb_below (R := some R) hb0)
  have HS := Lib.hid hΦ
  have HSZ := Lib.hid hs0
  clear hc hcell hb1 hb0 hs0 hΦ
  subst hX
  go_enter Try.func59, Try.ntmps59
  go_wp2_with (go_at_call 109; (with_reducible refine h109.mono ?_); rintro e w1 ⟨rfl, hu, hg⟩; have HU := Lib.hid hu; have HG := Lib.hid (gb_trans HB0.out hg); clear hu hg)
  go_ret
  exact ⟨rfl, HS.out _ _ (fun k hk => Below.heap_alloc _ _ k (by have := HG.out.size; omega)) HU.out, gb_trans HG.out (gb_below ((Below.refl _ _).alloc (Nat.le_refl _) _))⟩
set_option maxRecDepth 100000 in
theorem done_no (f : FuncId) (caps : Array Value) (k : Int) (w : World)
    (hcf : ∀ w : World, (callFunc f caps).run Try.prog w = .ok (.enter f caps) w)
    (hc : ∀ x, Below w.heap.size w x → Calls Try.prog f caps x (LeavesX k x)) :
    Calls Try.prog 59 #[.func (.func f) #[] caps] w fun e w' => e = .returned (.int .i64 k) ∧ Below w.heap.size w w' := by
  have hmf := makes
  obtain ⟨X, hX⟩ : ∃ X, w.alloc (.cells #[.func (.func f) #[] caps] 1) = X := ⟨_, rfl⟩
  have hb0 : Below w.heap.size w X := by rw [← hX]; exact (Below.refl _ w).alloc (Nat.le_refl _) _
  have hs0 : X.heap.size = w.heap.size + 1 := by rw [← hX]; simp
  have hcell : X.cell? ⟨w.heap.size, 0, none⟩ = some (.func (.func f) #[] caps) := by rw [← hX]; simp [go_sem]
  have he := enters_of Try.func110 (by kernel_rfl) rfl
  have hb1 : Below w.heap.size w ((X.alloc (.cells #[] 125)).alloc (.cells #[.int .i64 0] 26)) := (hb0.alloc (by omega) _).alloc (by simp; omega) _
  have h109 := fitted109_no 110 #[at0 w.heap.size] k X (he _)
    (done110_no f caps w.heap.size k _ ((Same.alloc _ _).cell ((Same.alloc _ _).cell hcell)) hcf (hc _ (hb1.alloc (by simp; omega) _)))
  have HB0 := Lib.hid hb0
  clear hc hcell hb1 hb0 hs0
  subst hX
  go_enter Try.func59, Try.ntmps59
  go_wp2_with (go_at_call 109; (with_reducible refine h109.mono ?_); rintro e w1 ⟨rfl, hg⟩; have HG := Lib.hid (HB0.out.trans (hg.mono HB0.out.size)); clear hg)
  go_ret
  exact ⟨rfl, HG.out.alloc HG.out.size _⟩

def tgt (c : Ch) : Int := if c.m then 0 else c.g
def turnC (fr : Int) (c : Ch) : Ch := if tgt c = c.t then c else { c with f := grownI c.f c.t c.n c.a, t := tgt c, n := fr, a := 0 }
set_option maxRecDepth 100000 in
theorem target_any (P R : Nat) (cs : List Ch) (i : Nat) (w : World) (h : VolAt P R cs w) (hi : i < cs.length) : Calls Try.prog 124 #[.pointer (some ⟨R, i * 6, none⟩)] w fun e w' => e = .returned (.int .i64 (tgt (chAt cs i))) ∧ w = w' := by
  have h4 := h.cell hi (j := 4) (by omega)
  have h5 := h.cell hi (j := 5) (by omega)
  unfold tgt
  generalize chAt cs i = c at *
  obtain ⟨f, t, n, a, g, m⟩ := c
  simp only [Ch.val] at h4 h5
  clear h
  cases m with
  | true =>
    go_enter Try.func124, Try.ntmps124
    go_wp2_with fail
    go_ret
    exact ⟨rfl, rfl⟩
  | false =>
    go_enter Try.func124, Try.ntmps124
    go_wp2_with fail
    go_ret
    exact ⟨rfl, rfl⟩
def TurnAns (P R : Nat) (cs : List Ch) (w : World) (e : Ending) (w' : World) : Prop := e = .returned (.tuple #[]) ∧ VolAt P R cs w' ∧ w.grownBy w' (some R)
theorem set_self {cs : List Ch} {i : Nat} (hi : i < cs.length) : cs.set i (chAt cs i) = cs := chs_eq (by simp) fun k hk => by
  rw [chAt_set _ hi]
  split
  · rename_i e; rw [e]
  · rfl
theorem VolAt.put4 {P R : Nat} {cs : List Ch} {w : World} (h : VolAt P R cs w) {i : Nat} (hi : i < cs.length) {f t n a g f2 t2 n2 a2 : Int} {m : Bool} (hc : chAt cs i = ⟨f, t, n, a, g, m⟩) :
    VolAt P R (cs.set i ⟨f2, t2, n2, a2, g, m⟩) ((((w.setCell ⟨R, i * 6, none⟩ (.int .i64 f2)).setCell ⟨R, i * 6 + 1, none⟩ (.int .i64 t2)).setCell ⟨R, i * 6 + 2, none⟩ (.int .i64 n2)).setCell ⟨R, i * 6 + 3, none⟩ (.int .i64 a2)) := by
  have e0 : ∀ (cs : List Ch) (c d : Ch), (cs.set i c).set i d = cs.set i d := fun cs c d => by simp
  have at' : ∀ c : Ch, chAt (cs.set i c) i = c := fun c => by rw [chAt_set c hi, if_pos rfl]
  have s1 := h.put hi (j := 0) (by omega) ⟨f2, t, n, a, g, m⟩ (.int .i64 f2) rfl (fun k hk hne => by rw [hc]; match k with | 0 => exact absurd rfl hne | 1 => rfl | 2 => rfl | 3 => rfl | 4 => rfl | 5 => rfl | k + 6 => omega)
  have s2 := s1.put (i := i) (by simpa using hi) (j := 1) (by omega) ⟨f2, t2, n, a, g, m⟩ (.int .i64 t2) rfl (fun k hk hne => by rw [at']; match k with | 0 => rfl | 1 => exact absurd rfl hne | 2 => rfl | 3 => rfl | 4 => rfl | 5 => rfl | k + 6 => omega)
  rw [e0] at s2
  have s3 := s2.put (i := i) (by simpa using hi) (j := 2) (by omega) ⟨f2, t2, n2, a, g, m⟩ (.int .i64 n2) rfl (fun k hk hne => by rw [at']; match k with | 0 => rfl | 1 => rfl | 2 => exact absurd rfl hne | 3 => rfl | 4 => rfl | 5 => rfl | k + 6 => omega)
  rw [e0] at s3
  have s4 := s3.put (i := i) (by simpa using hi) (j := 3) (by omega) ⟨f2, t2, n2, a2, g, m⟩ (.int .i64 a2) rfl (fun k hk hne => by rw [at']; match k with | 0 => rfl | 1 => rfl | 2 => rfl | 3 => exact absurd rfl hne | 4 => rfl | 5 => rfl | k + 6 => omega)
  rw [e0] at s4
  exact s4
set_option maxRecDepth 100000 in
theorem turn_any (P R : Nat) (cs : List Ch) (i : Nat) (fr : Int) (w : World) (h : VolAt P R cs w) (hi : i < cs.length) (hr : RampOk (chAt cs i).f (chAt cs i).t (chAt cs i).n (chAt cs i).a) :
    Calls Try.prog 111 #[.pointer (some ⟨R, i * 6, none⟩), .int .i64 fr] w (TurnAns P R (cs.set i (turnC fr (chAt cs i))) w) := by
  have h124 := target_any P R cs i w h hi
  have h70 := fun x => now_any hr x
  have hrp := h.ramp hi
  have hse := set_self hi
  have HV := Lib.hid h
  have HPUT := Lib.hid (fun (x : World) (hx : VolAt P R cs x) (f2 t2 n2 a2 : Int) => hx.put4 hi (f2 := f2) (t2 := t2) (n2 := n2) (a2 := a2) (m := (chAt cs i).m) (g := (chAt cs i).g) (f := (chAt cs i).f) (t := (chAt cs i).t) (n := (chAt cs i).n) (a := (chAt cs i).a) rfl)
  unfold turnC
  generalize hcc : chAt cs i = c at *
  generalize tgt c = T at *
  obtain ⟨f, t, n, a, g, m⟩ := c
  dsimp only at *
  have H70 := Lib.hid h70
  have HSE := Lib.hid hse
  obtain ⟨r0, r1, r2, r3⟩ := hrp
  have HFZ := Lib.hid (fun (x : World) (hx : VolAt P R cs x) (k : Nat) => hx.frozen k)
  clear h h70 hse hr hcc
  by_cases e : T = t
  · rw [if_pos e, HSE.out]
    have d1 : (T != t) = false := by simpa using e
    go_enter Try.func111, Try.ntmps111
    go_wp2_with (go_at_call 124; (with_reducible refine h124.mono ?_); rintro e w1 ⟨rfl, rfl⟩)
    go_end0
    exact ⟨rfl, HV.out, gb_refl _ _⟩
  · rw [if_neg e]
    have d1 : (T != t) = true := by simpa using e
    unfold rampV at H70
    generalize grownI f t n a = G at *
    go_enter Try.func111, Try.ntmps111
    go_wp2_with (first
      | (go_at_call 124; (with_reducible refine h124.mono ?_); rintro e w1 ⟨rfl, rfl⟩)
      | (go_at_call 70; (with_reducible refine (H70.out _).mono ?_); rintro e w1 ⟨rfl, hb1⟩
         have hv1 := HV.out.below hb1
         obtain ⟨q0, q1, q2, q3⟩ := show RampAt R (i * 6) f t n a w1 from RampAt.mono ⟨r0, r1, r2, r3⟩ (Same.of_below hb1)
         have z0 := HFZ.out w1 hv1 (i * 6)
         have z1 := HFZ.out w1 hv1 (i * 6 + 1)
         have z2 := HFZ.out w1 hv1 (i * 6 + 2)
         have z3 := HFZ.out w1 hv1 (i * 6 + 3)
         have HV1 := Lib.hid hv1
         have HB1 := Lib.hid hb1
         clear hv1 hb1))
    go_end0
    exact ⟨rfl, HPUT.out _ HV1.out G T fr 0, gb_trans (gb_below HB1.out) (gb_trans (gb_trans (gb_trans (gb_set _ _ _ _) (gb_set _ _ _ _)) (gb_set _ _ _ _)) (gb_set _ _ _ _))⟩
end Go.Proofs.Ythfagnbecocgdaa
