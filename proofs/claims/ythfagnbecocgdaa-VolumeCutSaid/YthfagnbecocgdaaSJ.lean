/- Mute, where all fits. -/
import Derived.Test.YthfagnbecocgdaaSI
namespace Go.Proofs.Ythfagnbecocgdaa
open Go.RowKit Go.Shelf Go.Deep

def BoolIn (w : World) (ms : List Bool) (v : Value) : Prop := ∃ a cap, v = .slice a ms.length cap ∧ ∀ i, i < ms.length → ∃ b off, a = some ⟨b, off, none⟩ ∧ w.cell? ⟨b, off + i, none⟩ = some (.bool (ms.getD i false))
def BoolOff (R : Nat) (w : World) (ms : List Bool) (u : Value) : Prop := ∀ x, w.grownBy x (some R) → BoolIn x ms u
theorem BoolOff.goes {R : Nat} {w x : World} {ms : List Bool} {u : Value} (h : BoolOff R w ms u) (hg : w.grownBy x (some R)) : BoolOff R x ms u := fun y hy => h y (gb_trans hg hy)
set_option maxRecDepth 100000 in
theorem mute66_any (P R Bg : Nat) (cs : List Ch) (ms : List Bool) (u : Value) (w : World) (hu : ∀ x, w.grownBy x (some R) → BoolIn x ms u ∧ x.cell? ⟨Bg, 0, none⟩ = some u) (hl : ms.length = cs.length) : Sets 66 Bg P R cs (muteU ms) w := by
  refine ⟨enters_of Try.func66 (by kernel_rfl) rfl, fun j hj ds x hv hg hdl hdj => ?_⟩
  obtain ⟨hr, hc⟩ := hu x hg
  have hz := hv.frozen (j * 6 + 5)
  have hput := hv.put (i := j) (by omega) (j := 5) (by omega) (muteU ms j (chAt cs j)) (.bool (ms.getD j false)) rfl (fun k hk hne => by
    rw [hdj]
    match k with | 0 => rfl | 1 => rfl | 2 => rfl | 3 => rfl | 4 => rfl | 5 => exact absurd rfl hne | k + 6 => omega)
  obtain ⟨a, ca, rfl, hin⟩ := hr
  obtain ⟨bb, ob, rfl, hcj⟩ := hin j (by omega)
  have w4 : (j : Int) < (ms.length : Int) := by omega
  generalize ms.getD j false = gv at *
  have h4 := hv.cell (i := j) (by omega) (j := 5) (by omega)
  have HP := Lib.hid hput
  clear hput hin hu hv hdj hg
  go_enter Try.func66, Try.ntmps66
  go_wp2_with fail
  go_end0
  exact ⟨rfl, HP.out, gb_set _ _ _ _⟩
set_option maxRecDepth 100000 in
theorem mute65_yes (P R Bv Bg Bf : Nat) (cs : List Ch) (ms : List Bool) (u : Value) (fr : Int) (w : World) (hV : VolAt P R cs w) (hok : ∀ i, i < cs.length → (chAt cs i).Ok) (h8 : cs.length ≤ 8) (hu : BoolOff R w ms u) (hf : timeB fr = true) (hl : ms.length = cs.length)
    (k0 : w.cell? ⟨Bv, 0, none⟩ = some (.pointer (some ⟨P, 0, none⟩))) (k1 : w.cell? ⟨Bg, 0, none⟩ = some u) (k2 : w.cell? ⟨Bf, 0, none⟩ = some (.int .i64 fr)) (n0 : Bv ≠ R) (n1 : Bg ≠ R) (n2 : Bf ≠ R) :
    Calls Try.prog 65 #[at0 Bv, at0 Bf, at0 Bg] w (TurnAns P R (mapC (fun j c => turnC fr (muteU ms j c)) cs) w) := by
  have hmf := makes
  have h62 := time_yes hf w
  have HM1 := Lib.hid (must_yes 1)
  have HMU : Hid (∀ x, Calls Try.prog 50 #[.bool true, .int .i64 11] x fun e w' => e = .returned (.tuple #[]) ∧ w' = x) := Lib.hid fun x => (must_yes 11 x).mono fun e w' ⟨h1, h2⟩ => ⟨h1, h2.symm⟩
  have H63 := Lib.hid (fun (x : World) (hx : w.grownBy x (some R)) (hvx : VolAt P R cs x) => change_any P R 66 Bg cs (muteU ms) fr x hvx (mute66_any P R Bg cs ms u x (fun y hy => ⟨hu y (gb_trans hx hy), gb_cell k1 (gb_trans hx hy) n1⟩) hl) h8 (fun j hj => (hok j hj).ramp))
  obtain ⟨cap, htop⟩ := hV.top
  obtain ⟨hP, hRl⟩ := hV.lt
  have hne := hV.ne
  rw [← hl] at htop
  obtain ⟨a, ca, rfl, _⟩ := hu w (gb_refl _ _)
  have HX : Hid (∀ x, w.grownBy x (some R) → ((x.cell? ⟨Bv, 0, none⟩ = some (.pointer (some ⟨P, 0, none⟩)) ∧ x.cell? ⟨Bg, 0, none⟩ = some (.slice a ms.length ca)) ∧ x.cell? ⟨Bf, 0, none⟩ = some (.int .i64 fr)) ∧ x.cell? ⟨P, 0, none⟩ = some (.slice (some ⟨R, 0, none⟩) ms.length cap)) :=
    Lib.hid fun x hx => ⟨⟨⟨gb_cell k0 hx n0, gb_cell k1 hx n1⟩, gb_cell k2 hx n2⟩, gb_cell htop hx hne⟩
  have HV := Lib.hid hV
  clear hu hok hV hf hl h8
  go_enter Try.func65, Try.ntmps65
  go_upto_region 2 with (first
    | (go_at_call 62; (with_reducible refine h62.mono ?_); rintro e w1 ⟨rfl, rfl⟩)
    | (go_at_call 50; (with_reducible refine (HM1.out _).mono ?_); rintro e w1 ⟨rfl, rfl⟩))
  go_quiet ((go_at_call 50; with_reducible exact Calls.quiet_of_same (HMU.out _)))
  clear h62 k0 k1 k2 htop
  generalize hwx : w.drewN _ = wx
  have hb1 : Below w.heap.size w wx := by rw [← hwx]; exact below_drewN (Below.refl _ _) _
  clear hwx
  have h63 := H63.out wx (gb_below hb1) (HV.out.below hb1)
  obtain ⟨⟨⟨m0, m1⟩, m2⟩, m3⟩ := HX.out _ (gb_below hb1)
  have HB := Lib.hid hb1
  clear hb1
  go_wp2_with (go_at_call 63; (with_reducible refine h63.mono ?_); rintro e w2 ⟨rfl, hv2, hg2⟩; have HR := Lib.hid (And.intro hv2 (gb_trans (gb_below HB.out) hg2)); clear hv2 hg2)
  go_end0
  exact ⟨rfl, HR.out.1, HR.out.2⟩


def muteR (ms : List Bool) (fr : Int) (cs : List Ch) : List Ch := mapC (fun j c => turnC fr (muteU ms j c)) cs
set_option maxRecDepth 100000 in
theorem mute_yes (P R : Nat) (cs : List Ch) (ms : List Bool) (u : Value) (fr : Int) (w : World) (hV : VolAt P R cs w) (hok : ∀ i, i < cs.length → (chAt cs i).Ok) (h8 : cs.length ≤ 8) (hu : BoolOff R w ms u) (hf : timeB fr = true) (hl : ms.length = cs.length) :
    Calls Try.prog 14 #[.pointer (some ⟨P, 0, none⟩), u, .int .i64 fr] w (SetAns P R (muteR ms fr cs) 0 w) := by
  have hmf := makes
  obtain ⟨hP, hR⟩ := hV.lt
  obtain ⟨X, hX⟩ : ∃ X, Obj.cells #[.pointer (some ⟨P, 0, none⟩)] 25 = X := ⟨_, rfl⟩
  obtain ⟨Y, hY⟩ : ∃ Y, Obj.cells #[u] 43 = Y := ⟨_, rfl⟩
  obtain ⟨U, hU⟩ : ∃ U, Obj.cells #[.int .i64 fr] 3 = U := ⟨_, rfl⟩
  have hbel : Below w.heap.size w (((w.alloc X).alloc Y).alloc U) := ((((Below.refl _ w).alloc (Nat.le_refl _) _).alloc (by simp) _).alloc (by simp <;> omega) _)
  have hv1 : u.oneCell' = true := by obtain ⟨a, ca, rfl, _⟩ := hu w (gb_refl _ _); rfl
  have hs3 : (((w.alloc X).alloc Y).alloc U).heap.size = w.heap.size + 1 + 1 + 1 := by simp
  have c0 : (((w.alloc X).alloc Y).alloc U).cell? ⟨w.heap.size, 0, none⟩ = some (.pointer (some ⟨P, 0, none⟩)) := by
    refine ((Same.alloc _ U).cell ((Same.alloc _ Y).cell ?_)); rw [← hX]; simp [go_sem]
  have c1 : (((w.alloc X).alloc Y).alloc U).cell? ⟨w.heap.size + 1, 0, none⟩ = some u := by
    refine ((Same.alloc _ U).cell ?_); rw [← hY]; simp [go_sem]
  have c2 : (((w.alloc X).alloc Y).alloc U).cell? ⟨w.heap.size + 1 + 1, 0, none⟩ = some (.int .i64 fr) := by
    rw [← hU]; simp [go_sem]
  obtain ⟨Z, hZ⟩ : ∃ Z, ((w.alloc X).alloc Y).alloc U = Z := ⟨_, rfl⟩
  rw [hZ] at hbel hs3 c0 c1 c2
  have hVZ := hV.below hbel
  have huZ := hu.goes (gb_below hbel)
  have he := enters_of Try.func65 (by kernel_rfl) rfl
  have hcl : Calls Try.prog 59 #[.func (.func 65) #[] #[at0 w.heap.size, at0 (w.heap.size + 1 + 1), at0 (w.heap.size + 1)]] Z (SetAns P R (muteR ms fr cs) 0 Z) := by
    refine (done_yes 65 _ R Z (by omega) (fun x => VolAt P R (mapC (fun j c => turnC fr (muteU ms j c)) cs) x) (fun w1 w2 h hv => hv.of_blocks (h P (by omega)) (h R (by omega))) (he _) fun x hx =>
      (mute65_yes P R _ _ _ cs ms u fr x (hVZ.below hx) hok h8 (huZ.goes (gb_below hx)) hf hl ((Same.of_below hx).cell c0) ((Same.of_below hx).cell c1) ((Same.of_below hx).cell c2) (by omega) (by omega) (by omega)).mono fun e w' ⟨h1, h2, h3⟩ => ⟨h1, h2, h3⟩).mono ?_
    rintro e w' ⟨rfl, h1, h2⟩
    exact ⟨rfl, h1, h2⟩
  obtain ⟨a, ca, rfl, _⟩ := id (hu w (gb_refl _ _))
  generalize muteR ms fr cs = ds at *
  have HBL := Lib.hid hbel
  clear hbel c0 c1 c2 hV hok hu hVZ huZ hs3 hl
  subst hZ
  subst hX
  subst hY
  subst hU
  go_enter Try.func14, Try.ntmps14
  go_wp2_with (go_at_call 59; (with_reducible refine hcl.mono ?_); rintro e w1 ⟨rfl, hv1, hg1⟩; have HR := Lib.hid (And.intro hv1 (gb_trans (gb_below HBL.out) hg1)); clear hv1 hg1)
  go_ret
  exact ⟨rfl, HR.out.1, HR.out.2⟩
end Go.Proofs.Ythfagnbecocgdaa
