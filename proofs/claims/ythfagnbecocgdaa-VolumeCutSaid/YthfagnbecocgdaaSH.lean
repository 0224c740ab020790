/- Set, whole; Mute, where all fits. -/
import Derived.Test.YthfagnbecocgdaaSG
namespace Go.Proofs.Ythfagnbecocgdaa
open Go.RowKit Go.Shelf Go.Deep

def setK (gs : List Int) (fr : Int) (n : Nat) : Int := if allG gs = false then 7 else if timeB fr = false then 7 else if gs.length = n then 0 else 11
def setR (gs : List Int) (fr : Int) (cs : List Ch) : List Ch := if setK gs fr cs.length = 0 then mapC (fun j c => turnC fr (setU gs j c)) cs else cs
def RowOff (R : Nat) (w : World) (gs : List Int) (u : Value) : Prop := ∀ x, w.grownBy x (some R) → RowIn x gs u
theorem RowOff.goes {R : Nat} {w x : World} {gs : List Int} {u : Value} (h : RowOff R w gs u) (hg : w.grownBy x (some R)) : RowOff R x gs u := fun y hy => h y (gb_trans hg hy)

set_option maxRecDepth 100000 in
theorem set60_yes (P R Bv Bg Bf : Nat) (cs : List Ch) (gs : List Int) (u : Value) (fr : Int) (w : World) (hV : VolAt P R cs w) (hok : ∀ i, i < cs.length → (chAt cs i).Ok) (h8 : cs.length ≤ 8) (hu : RowOff R w gs u) (hg : allG gs = true) (hf : timeB fr = true) (hl : gs.length = cs.length)
    (k0 : w.cell? ⟨Bv, 0, none⟩ = some (.pointer (some ⟨P, 0, none⟩))) (k1 : w.cell? ⟨Bg, 0, none⟩ = some u) (k2 : w.cell? ⟨Bf, 0, none⟩ = some (.int .i64 fr)) (n0 : Bv ≠ R) (n1 : Bg ≠ R) (n2 : Bf ≠ R) :
    Calls Try.prog 60 #[at0 Bv, at0 Bg, at0 Bf] w (TurnAns P R (mapC (fun j c => turnC fr (setU gs j c)) cs) w) := by
  have hmf := makes
  have h61 := gains_yes hg u w (hu w (gb_refl _ _))
  have h62 := time_yes hf w
  have HM1 := Lib.hid (must_yes 1)
  have HMU : Hid (∀ x, Calls Try.prog 50 #[.bool true, .int .i64 11] x fun e w' => e = .returned (.tuple #[]) ∧ w' = x) := Lib.hid fun x => (must_yes 11 x).mono fun e w' ⟨h1, h2⟩ => ⟨h1, h2.symm⟩
  have H63 := Lib.hid (fun (x : World) (hx : w.grownBy x (some R)) (hvx : VolAt P R cs x) => change_any P R 64 Bg cs (setU gs) fr x hvx (set64_any P R Bg cs gs u x (fun y hy => ⟨hu y (gb_trans hx hy), gb_cell k1 (gb_trans hx hy) n1⟩) hl) h8 (fun j hj => (hok j hj).ramp))
  obtain ⟨cap, htop⟩ := hV.top
  obtain ⟨hP, hRl⟩ := hV.lt
  have hne := hV.ne
  rw [← hl] at htop
  obtain ⟨a, ca, rfl, _, _, _⟩ := hu w (gb_refl _ _)
  have HX : Hid (∀ x, w.grownBy x (some R) → ((x.cell? ⟨Bv, 0, none⟩ = some (.pointer (some ⟨P, 0, none⟩)) ∧ x.cell? ⟨Bg, 0, none⟩ = some (.slice a gs.length ca)) ∧ x.cell? ⟨Bf, 0, none⟩ = some (.int .i64 fr)) ∧ x.cell? ⟨P, 0, none⟩ = some (.slice (some ⟨R, 0, none⟩) gs.length cap)) :=
    Lib.hid fun x hx => ⟨⟨⟨gb_cell k0 hx n0, gb_cell k1 hx n1⟩, gb_cell k2 hx n2⟩, gb_cell htop hx hne⟩
  have HV := Lib.hid hV
  clear hu hok hV hg hf hl h8
  go_enter Try.func60, Try.ntmps60
  go_upto_region 3 with (first
    | (go_at_call 61; (with_reducible refine h61.mono ?_); rintro e w1 ⟨rfl, rfl⟩)
    | (go_at_call 62; (with_reducible refine h62.mono ?_); rintro e w1 ⟨rfl, rfl⟩)
    | (go_at_call 50; (with_reducible refine (HM1.out _).mono ?_); rintro e w1 ⟨rfl, rfl⟩))
  go_quiet ((go_at_call 50; with_reducible exact Calls.quiet_of_same (HMU.out _)))
  clear h61 h62 k0 k1 k2 htop
  generalize hwx : w.drewN _ = wx
  have hb1 : Below w.heap.size w wx := by rw [← hwx]; exact below_drewN (Below.refl _ _) _
  clear hwx
  have h63 := H63.out wx (gb_below hb1) (HV.out.below hb1)
  obtain ⟨⟨⟨m0, m1⟩, m2⟩, m3⟩ := HX.out _ (gb_below hb1)
  have HB := Lib.hid hb1
  clear hb1
  go_wp2_with (go_at_call 63; (with_reducible refine h63.mono ?_); rintro e w2 ⟨rfl, hv2, hg2⟩; have HR := Lib.hid (And.intro hv2 (gb_trans (gb_below HB.out) hg2)); clear hv2 hg2)
  go_end0
  exact ⟨rfl, HR.out.1, HR.out.2⟩

set_option maxRecDepth 100000 in
theorem set60_gains (P Bv Bg Bf : Nat) (gs : List Int) (u : Value) (w : World) (hu : RowIn w gs u) (hg : allG gs = false)
    (k0 : w.cell? ⟨Bv, 0, none⟩ = some (.pointer (some ⟨P, 0, none⟩))) (k1 : w.cell? ⟨Bg, 0, none⟩ = some u) : Calls Try.prog 60 #[at0 Bv, at0 Bg, at0 Bf] w (LeavesX 7 w) := by
  have h61 := gains_no hg u w hu
  have HM1 := Lib.hid (must_yes 1)
  obtain ⟨a, ca, rfl, _, _, _⟩ := hu
  clear hg
  go_enter Try.func60, Try.ntmps60
  go_wp2_with (first
    | (go_at_call 61; (with_reducible refine h61.mono ?_); rintro e w1 ⟨rfl, rfl⟩)
    | (go_at_call 50; (with_reducible refine (HM1.out _).mono ?_); rintro e w1 ⟨rfl, rfl⟩))
  exact ⟨rfl, rfl, Below.refl _ _⟩
set_option maxRecDepth 100000 in
theorem set60_time (P Bv Bg Bf : Nat) (gs : List Int) (u : Value) (fr : Int) (w : World) (hu : RowIn w gs u) (hg : allG gs = true) (hf : timeB fr = false)
    (k0 : w.cell? ⟨Bv, 0, none⟩ = some (.pointer (some ⟨P, 0, none⟩))) (k1 : w.cell? ⟨Bg, 0, none⟩ = some u) (k2 : w.cell? ⟨Bf, 0, none⟩ = some (.int .i64 fr)) : Calls Try.prog 60 #[at0 Bv, at0 Bg, at0 Bf] w (LeavesX 7 w) := by
  have h61 := gains_yes hg u w hu
  have h62 := time_no hf w
  have HM1 := Lib.hid (must_yes 1)
  obtain ⟨a, ca, rfl, _, _, _⟩ := hu
  clear hg hf
  go_enter Try.func60, Try.ntmps60
  go_wp2_with (first
    | (go_at_call 61; (with_reducible refine h61.mono ?_); rintro e w1 ⟨rfl, rfl⟩)
    | (go_at_call 62; (with_reducible refine h62.mono ?_); rintro e w1 ⟨rfl, rfl⟩)
    | (go_at_call 50; (with_reducible refine (HM1.out _).mono ?_); rintro e w1 ⟨rfl, rfl⟩))
  exact ⟨rfl, rfl, Below.refl _ _⟩
set_option maxRecDepth 100000 in
theorem set60_size (P R Bv Bg Bf : Nat) (cs : List Ch) (gs : List Int) (u : Value) (fr : Int) (w : World) (hV : VolAt P R cs w) (hu : RowIn w gs u) (hg : allG gs = true) (hf : timeB fr = true) (hl : ¬ gs.length = cs.length)
    (k0 : w.cell? ⟨Bv, 0, none⟩ = some (.pointer (some ⟨P, 0, none⟩))) (k1 : w.cell? ⟨Bg, 0, none⟩ = some u) (k2 : w.cell? ⟨Bf, 0, none⟩ = some (.int .i64 fr)) : Calls Try.prog 60 #[at0 Bv, at0 Bg, at0 Bf] w (LeavesX 11 w) := by
  have h61 := gains_yes hg u w hu
  have h62 := time_yes hf w
  have HM1 := Lib.hid (must_yes 1)
  have HMU := Lib.hid (must_no 11)
  obtain ⟨cap, htop⟩ := hV.top
  obtain ⟨hP, hRl⟩ := hV.lt
  have hne := hV.ne
  obtain ⟨a, ca, rfl, _, _, _⟩ := hu
  obtain ⟨L, hL⟩ : ∃ L, cs.length = L := ⟨_, rfl⟩
  rw [hL] at hl htop
  have t1 : ((gs.length : Int) == (L : Int)) = false := by simp; omega
  have t3 : decide (gs.length = L) = false := decide_eq_false hl
  have t4 : (gs.length == L) = false := by simpa using hl
  clear hg hf hV hL hl
  go_enter Try.func60, Try.ntmps60
  go_upto_region 3 with (first
    | (go_at_call 61; (with_reducible refine h61.mono ?_); rintro e w1 ⟨rfl, rfl⟩)
    | (go_at_call 62; (with_reducible refine h62.mono ?_); rintro e w1 ⟨rfl, rfl⟩)
    | (go_at_call 50; (with_reducible refine (HM1.out _).mono ?_); rintro e w1 ⟨rfl, rfl⟩))
  clear h61 h62
  go_still_tail 8, (by kernel_rfl)
  change wpList _ _ _ _ _ w.drew
  go_wp2_with (go_at_call 50; (with_reducible refine (HMU.out _).mono ?_); rintro e w1 ⟨rfl, rfl⟩)
  exact ⟨rfl, rfl, (Below.refl _ _).drew⟩

def SetAns (P R : Nat) (cs : List Ch) (k : Int) (w : World) (e : Ending) (w' : World) : Prop := e = .returned (.int .i64 k) ∧ VolAt P R cs w' ∧ w.grownBy w' (some R)
set_option maxRecDepth 100000 in
theorem set_any (P R : Nat) (cs : List Ch) (gs : List Int) (u : Value) (fr : Int) (w : World) (hV : VolAt P R cs w) (hok : ∀ i, i < cs.length → (chAt cs i).Ok) (h8 : cs.length ≤ 8) (hu : RowOff R w gs u) :
    Calls Try.prog 13 #[.pointer (some ⟨P, 0, none⟩), u, .int .i64 fr] w (SetAns P R (setR gs fr cs) (setK gs fr cs.length) w) := by
  have hmf := makes
  obtain ⟨hP, hR⟩ := hV.lt
  obtain ⟨X, hX⟩ : ∃ X, Obj.cells #[.pointer (some ⟨P, 0, none⟩)] 25 = X := ⟨_, rfl⟩
  obtain ⟨Y, hY⟩ : ∃ Y, Obj.cells #[u] 40 = Y := ⟨_, rfl⟩
  obtain ⟨U, hU⟩ : ∃ U, Obj.cells #[.int .i64 fr] 3 = U := ⟨_, rfl⟩
  have hbel : Below w.heap.size w (((w.alloc X).alloc Y).alloc U) := ((((Below.refl _ w).alloc (Nat.le_refl _) _).alloc (by simp) _).alloc (by simp <;> omega) _)
  have hv1 : u.oneCell' = true := by obtain ⟨a, ca, rfl, _⟩ := hu w (gb_refl _ _); rfl
  have hs3 : (((w.alloc X).alloc Y).alloc U).heap.size = w.heap.size + 1 + 1 + 1 := by simp
  have c0 : (((w.alloc X).alloc Y).alloc U).cell? ⟨w.heap.size, 0, none⟩ = some (.pointer (some ⟨P, 0, none⟩)) := by
    refine ((Same.alloc _ U).cell ((Same.alloc _ Y).cell ?_)); rw [← hX]; simp [go_sem]
  have c1 : (((w.alloc X).alloc Y).alloc U).cell? ⟨w.heap.size + 1, 0, none⟩ = some u := by
    refine ((Same.alloc _ U).cell ?_); rw [← hY]; simp [go_sem]
  have c2 : (((w.alloc X).alloc Y).alloc U).cell? ⟨w.heap.size + 1 + 1, 0, none⟩ = some (.int .i64 fr) := by
    rw [← hU]; simp [go_sem]
  obtain ⟨Z, hZ⟩ : ∃ Z, ((w.alloc X).alloc Y).alloc U = Z := ⟨_, rfl⟩
  rw [hZ] at hbel hs3 c0 c1 c2
  have hVZ := hV.below hbel
  have huZ := hu.goes (gb_below hbel)
  have hcl : Calls Try.prog 59 #[.func (.func 60) #[] #[at0 w.heap.size, at0 (w.heap.size + 1), at0 (w.heap.size + 1 + 1)]] Z (SetAns P R (setR gs fr cs) (setK gs fr cs.length) Z) := by
    have he := enters_of Try.func60 (by kernel_rfl) rfl
    have hno : ∀ k, setK gs fr cs.length = k → k ≠ 0 → (∀ x, Below Z.heap.size Z x → Calls Try.prog 60 #[at0 w.heap.size, at0 (w.heap.size + 1), at0 (w.heap.size + 1 + 1)] x (LeavesX k x)) → Calls Try.prog 59 #[.func (.func 60) #[] #[at0 w.heap.size, at0 (w.heap.size + 1), at0 (w.heap.size + 1 + 1)]] Z (SetAns P R (setR gs fr cs) (setK gs fr cs.length) Z) := fun k hk hk0 hc => by
      rw [show setR gs fr cs = cs by unfold setR; rw [if_neg (by rw [hk]; exact hk0)], hk]
      refine (done_no 60 _ k Z (he _) hc).mono ?_
      rintro e w' ⟨rfl, hb⟩
      exact ⟨rfl, hVZ.below hb, gb_below hb⟩
    cases hg : allG gs with
    | false => exact hno 7 (by unfold setK; rw [if_pos hg]) (by decide) fun x hx => set60_gains P _ _ _ gs u x (huZ x (gb_below hx)) hg ((Same.of_below hx).cell c0) ((Same.of_below hx).cell c1)
    | true =>
      have hng : ¬ allG gs = false := by rw [hg]; decide
      cases hf : timeB fr with
      | false => exact hno 7 (by unfold setK; rw [if_neg hng, if_pos hf]) (by decide) fun x hx => set60_time P _ _ _ gs u fr x (huZ x (gb_below hx)) hg hf ((Same.of_below hx).cell c0) ((Same.of_below hx).cell c1) ((Same.of_below hx).cell c2)
      | true =>
        have hnf : ¬ timeB fr = false := by rw [hf]; decide
        by_cases hl : gs.length = cs.length
        · have hk : setK gs fr cs.length = 0 := by unfold setK; rw [if_neg hng, if_neg hnf, if_pos hl]
          rw [show setR gs fr cs = mapC (fun j c => turnC fr (setU gs j c)) cs by unfold setR; rw [if_pos hk], hk]
          refine (done_yes 60 _ R Z (by omega) (fun x => VolAt P R (mapC (fun j c => turnC fr (setU gs j c)) cs) x) (fun w1 w2 h hv => hv.of_blocks (h P (by omega)) (h R (by omega))) (he _) fun x hx =>
            (set60_yes P R _ _ _ cs gs u fr x (hVZ.below hx) hok h8 (huZ.goes (gb_below hx)) hg hf hl ((Same.of_below hx).cell c0) ((Same.of_below hx).cell c1) ((Same.of_below hx).cell c2) (by omega) (by omega) (by omega)).mono fun e w' ⟨h1, h2, h3⟩ => ⟨h1, h2, h3⟩).mono ?_
          rintro e w' ⟨rfl, h1, h2⟩
          exact ⟨rfl, h1, h2⟩
        · exact hno 11 (by unfold setK; rw [if_neg hng, if_neg hnf, if_neg hl]) (by decide) fun x hx => set60_size P R _ _ _ cs gs u fr x (hVZ.below hx) (huZ x (gb_below hx)) hg hf hl ((Same.of_below hx).cell c0) ((Same.of_below hx).cell c1) ((Same.of_below hx).cell c2)
  obtain ⟨a, ca, rfl, _, _, _⟩ := id (hu w (gb_refl _ _))
  generalize setR gs fr cs = ds at *
  generalize setK gs fr cs.length = kk at *
  have HBL := Lib.hid hbel
  clear hbel c0 c1 c2 hV hok hu hVZ huZ hs3
  subst hZ
  subst hX
  subst hY
  subst hU
  go_enter Try.func13, Try.ntmps13
  go_wp2_with (go_at_call 59; (with_reducible refine hcl.mono ?_); rintro e w1 ⟨rfl, hv1, hg1⟩; have HR := Lib.hid (And.intro hv1 (gb_trans (gb_below HBL.out) hg1)); clear hv1 hg1)
  go_ret
  exact ⟨rfl, HR.out.1, HR.out.2⟩
end Go.Proofs.Ythfagnbecocgdaa
