/- Mix: the program's, whole. -/
import Derived.Test.YthfagnbecocgdaaQB
namespace Go.Proofs.Ythfagnbecocgdaa
open Go.RowKit Go.Shelf Go.Deep

def mixK (l : List (List (List Int))) : Int := if allV l = false then 1 else if alike l = false then 11 else if l.length = 0 then 8 else if 40 < l.length then 4 else 0
def mixR (l : List (List (List Int))) : List (List Int) := if mixK l = 0 then mixM l else []
theorem alike_yes {l : List (List (List Int))} (hV : allV l = true) (h : alike l = true) (v : Value) (w : World) (hv : BlksIn w l v) : Calls Try.prog 96 #[v] w fun e w' => e = .returned (.tuple #[]) ∧ Below w.heap.size w w' :=
  (alike_any l v w hv hV).mono fun e w' ⟨h1, h2⟩ => ⟨h1.elim (fun p => p.2) (fun p => by have := p.1; rw [h] at this; cases this), h2⟩
theorem alike_no {l : List (List (List Int))} (hV : allV l = true) (h : alike l = false) (v : Value) (w : World) (hv : BlksIn w l v) : Calls Try.prog 96 #[v] w fun e w' => e = .panicked (misfit 11) ∧ Below w.heap.size w w' :=
  (alike_any l v w hv hV).mono fun e w' ⟨h1, h2⟩ => ⟨h1.elim (fun p => by have := p.1; rw [h] at this; cases this) (fun p => p.2), h2⟩

set_option maxRecDepth 100000 in
theorem mix1_inv (l : List (List (List Int))) (v : Value) (Bl : Nat) (w : World) (hv : BlksIn w l v) (k0 : w.cell? ⟨Bl, 0, none⟩ = some v) (hV : allV l = false) : Calls Try.prog 95 #[at0 Bl] w (LeavesX 1 w) := by
  have h55 := blocks_no hV v w hv
  obtain ⟨a, ca, rfl, _, _, _⟩ := hv
  clear hV
  go_enter Try.func95, Try.ntmps95
  go_wp2_with (go_at_call 55; (with_reducible refine h55.mono ?_); rintro e w1 ⟨rfl, rfl⟩)
  exact ⟨rfl, rfl, Below.refl _ _⟩
set_option maxRecDepth 100000 in
theorem mix1_size (l : List (List (List Int))) (v : Value) (Bl : Nat) (w : World) (hv : BlksIn w l v) (k0 : w.cell? ⟨Bl, 0, none⟩ = some v) (hV : allV l = true) (hA : alike l = false) : Calls Try.prog 95 #[at0 Bl] w (LeavesX 11 w) := by
  have h55 := blocks_yes hV v w hv
  have h96 := alike_no hV hA v w hv
  obtain ⟨a, ca, rfl, _, _, _⟩ := hv
  clear hV hA
  go_enter Try.func95, Try.ntmps95
  go_wp2_with (first | (go_at_call 55; (with_reducible refine h55.mono ?_); rintro e w1 ⟨rfl, rfl⟩) | (go_at_call 96; (with_reducible refine h96.mono ?_); rintro e w1 ⟨rfl, hb⟩))
  exact ⟨rfl, rfl, hb⟩
set_option maxRecDepth 100000 in
theorem mix1_none (l : List (List (List Int))) (v : Value) (Bl : Nat) (w : World) (hv : BlksIn w l v) (k0 : w.cell? ⟨Bl, 0, none⟩ = some v) (h0 : l.length = 0) : Calls Try.prog 95 #[at0 Bl] w (LeavesX 8 w) := by
  obtain rfl : l = [] := List.eq_nil_of_length_eq_zero h0
  have h55 := blocks_yes (l := []) rfl v w hv
  have h96 := alike_yes (l := []) rfl rfl v w hv
  have HM := Lib.hid (must_no 8)
  have HX : Hid (∀ x, Below w.heap.size w x → x.cell? ⟨Bl, 0, none⟩ = some v) := Lib.hid fun x hx => (Same.of_below hx).cell k0
  obtain ⟨a, ca, rfl, _, _, _⟩ := hv
  simp only [List.length_nil] at h55 h96 HX k0
  go_enter Try.func95, Try.ntmps95
  go_wp2_with (first | (go_at_call 55; (with_reducible refine h55.mono ?_); rintro e w1 ⟨rfl, rfl⟩) | (go_at_call 96; (with_reducible refine h96.mono ?_); rintro e w1 ⟨rfl, hb⟩; have k1 := HX.out _ hb) | (go_at_call 50; (with_reducible refine (HM.out _).mono ?_); rintro e w2 ⟨rfl, rfl⟩))
  exact ⟨rfl, rfl, hb⟩
set_option maxRecDepth 100000 in
theorem mix1_many (l : List (List (List Int))) (v : Value) (Bl : Nat) (w : World) (hv : BlksIn w l v) (k0 : w.cell? ⟨Bl, 0, none⟩ = some v) (hV : allV l = true) (hA : alike l = true) (h40 : 40 < l.length) : Calls Try.prog 95 #[at0 Bl] w (LeavesX 4 w) := by
  have h55 := blocks_yes hV v w hv
  have h96 := alike_yes hV hA v w hv
  have HM := Lib.hid (must_no 4)
  have HY := Lib.hid (must_yes 8)
  have HX : Hid (∀ x, Below w.heap.size w x → x.cell? ⟨Bl, 0, none⟩ = some v) := Lib.hid fun x hx => (Same.of_below hx).cell k0
  obtain ⟨a, ca, rfl, _, _, _⟩ := hv
  have d1 : (0 : Int) < (l.length : Int) := by omega
  have d2 : ¬ (l.length : Int) ≤ 40 := by omega
  have d3 : decide (0 < l.length) = true := decide_eq_true (by omega)
  have d4 : decide ((l.length : Int) ≤ 40) = false := decide_eq_false d2
  clear hV hA h40
  go_enter Try.func95, Try.ntmps95
  go_wp2_with (first | (go_at_call 55; (with_reducible refine h55.mono ?_); rintro e w1 ⟨rfl, rfl⟩) | (go_at_call 96; (with_reducible refine h96.mono ?_); rintro e w1 ⟨rfl, hb⟩; have k1 := HX.out _ hb) | (go_at_call 50; (with_reducible refine (HY.out _).mono ?_); rintro e w2 ⟨rfl, rfl⟩) | (go_at_call 50; (with_reducible refine (HM.out _).mono ?_); rintro e w2 ⟨rfl, rfl⟩))
  exact ⟨rfl, rfl, hb⟩
set_option maxRecDepth 100000 in
theorem mix1_yes (l : List (List (List Int))) (v : Value) (Bl : Nat) (w : World) (hv : BlksIn w l v) (k0 : w.cell? ⟨Bl, 0, none⟩ = some v) (hV : allV l = true) (hA : alike l = true) (h0 : 0 < l.length) (h40 : l.length ≤ 40) : Calls Try.prog 95 #[at0 Bl] w (NewRet w (mixM l)) := by
  have h55 := blocks_yes hV v w hv
  have h96 := alike_yes hV hA v w hv
  have HM := Lib.hid (must_yes 4)
  have HY := Lib.hid (must_yes 8)
  have HX : Hid (∀ x, Below w.heap.size w x → x.cell? ⟨Bl, 0, none⟩ = some v) := Lib.hid fun x hx => (Same.of_below hx).cell k0
  have HJ : Hid (∀ x, Below w.heap.size w x → Calls Try.prog 97 #[v, .func (.func 98) #[] #[]] x (NewRet x (mixM l))) := Lib.hid fun x hx => joined_any l v x (hv.mono (Same.of_below hx)) hV hA h0 h40
  obtain ⟨a, ca, rfl, _, _, _⟩ := hv
  have d1 : (0 : Int) < (l.length : Int) := by omega
  have d2 : (l.length : Int) ≤ 40 := by omega
  have d3 : decide (0 < l.length) = true := decide_eq_true (by omega)
  have d4 : decide ((l.length : Int) ≤ 40) = true := decide_eq_true d2
  generalize mixM l = M at *
  clear hV hA h40
  go_enter Try.func95, Try.ntmps95
  go_wp2_with (first
    | (go_at_call 55; (with_reducible refine h55.mono ?_); rintro e w1 ⟨rfl, rfl⟩)
    | (go_at_call 96; (with_reducible refine h96.mono ?_); rintro e w1 ⟨rfl, hb⟩; have k1 := HX.out _ hb)
    | (go_at_call 50; (with_reducible refine (HY.out _).mono ?_); rintro e w2 ⟨rfl, rfl⟩)
    | (go_at_call 50; (with_reducible refine (HM.out _).mono ?_); rintro e w2 ⟨rfl, rfl⟩)
    | (go_at_call 97; (with_reducible refine (HJ.out _ hb).mono ?_); rintro e w3 ⟨u, rfl, hm, hb3⟩; have HMM := Lib.hid hm; clear hm))
  go_ret
  exact ⟨_, rfl, fun w2 h2 => HMM.out w2 fun k hk hlt => h2 k (Nat.le_trans hb.size hk) hlt, Below.then hb (Nat.le_refl _) hb3⟩

set_option maxRecDepth 100000 in
theorem mix_any (l : List (List (List Int))) (v : Value) (w : World) (hv : BlksIn w l v) : Calls Try.prog 40 #[v] w (NewAns w (mixR l) (mixK l)) := by
  have hmf := makes
  obtain ⟨X, hX⟩ : ∃ X, Obj.cells #[v] 64 = X := ⟨_, rfl⟩
  have hbel : Below w.heap.size w (w.alloc X) := (Below.refl _ w).alloc (Nat.le_refl _) _
  have hv1 : v.oneCell' = true := by obtain ⟨a, ca, rfl, _⟩ := hv; rfl
  have c0 : ∀ Z, ((w.alloc X).alloc Z).cell? ⟨w.heap.size, 0, none⟩ = some v := fun Z => by
    refine (Same.alloc _ Z).cell ?_; rw [← hX]; simp [go_sem]
  have hv2 : ∀ Z, BlksIn ((w.alloc X).alloc Z) l v := fun Z => (hv.mono (Same.alloc _ _)).mono (Same.alloc _ Z)
  have hcl : (mixK l = 0 ∧ Calls Try.prog 53 #[.func (.func 95) #[] #[at0 w.heap.size]] (w.alloc X) (NewAns (w.alloc X) (mixR l) 0)) ∨
      (mixR l = [] ∧ Calls Try.prog 53 #[.func (.func 95) #[] #[at0 w.heap.size]] (w.alloc X) fun e w' => e = .returned (.tuple #[.slice none 0 0, .int .i64 (mixK l)]) ∧ Below (w.alloc X).heap.size (w.alloc X) w') := by
    have he := enters_of Try.func95 (by kernel_rfl) rfl
    cases hV : allV l with
    | false =>
      have hk : mixK l = 1 := by simp [mixK, hV]
      refine .inr ⟨by simp [mixR, hk], ?_⟩
      rw [hk]
      exact fitted53_no 95 _ 1 _ (he _) (mix1_inv l v _ _ (hv2 _) (c0 _) hV)
    | true =>
      cases hA : alike l with
      | false =>
        have hk : mixK l = 11 := by simp [mixK, hV, hA]
        refine .inr ⟨by simp [mixR, hk], ?_⟩
        rw [hk]
        exact fitted53_no 95 _ 11 _ (he _) (mix1_size l v _ _ (hv2 _) (c0 _) hV hA)
      | true =>
        by_cases h0 : l.length = 0
        · have hk : mixK l = 8 := by simp [mixK, hV, hA, h0]
          refine .inr ⟨by simp [mixR, hk], ?_⟩
          rw [hk]
          exact fitted53_no 95 _ 8 _ (he _) (mix1_none l v _ _ (hv2 _) (c0 _) h0)
        · by_cases h40 : 40 < l.length
          · have hk : mixK l = 4 := by unfold mixK; rw [hV, hA, if_neg (by simp), if_neg (by simp), if_neg h0, if_pos h40]
            refine .inr ⟨by simp [mixR, hk], ?_⟩
            rw [hk]
            exact fitted53_no 95 _ 4 _ (he _) (mix1_many l v _ _ (hv2 _) (c0 _) hV hA h40)
          · have hk : mixK l = 0 := by unfold mixK; rw [hV, hA, if_neg (by simp), if_neg (by simp), if_neg h0, if_neg h40]
            refine .inl ⟨hk, ?_⟩
            rw [show mixR l = mixM l by simp [mixR, hk]]
            exact fitted53_mat 95 _ _ _ (he _) (mix1_yes l v _ _ (hv2 _) (c0 _) hV hA (by omega) (by omega))
  obtain ⟨a, ca, rfl, _, _, _⟩ := id hv
  generalize mixR l = M at *
  generalize mixK l = Kk at *
  have HBL := Lib.hid hbel
  clear hbel c0 hv2 hv
  rcases hcl with ⟨rfl, hf⟩ | ⟨rfl, hf⟩
  · subst hX
    go_enter Try.func40, Try.ntmps40
    go_wp2_with (go_at_call 53; (with_reducible refine hf.mono ?_); rintro e w1 ⟨u, rfl, hu, hb1⟩; have HU := Lib.hid hu; clear hu)
    go_ret2
    exact ⟨_, rfl, HU.out.mono HBL.out.size (Nat.le_refl _) fun _ _ _ => rfl, HBL.out.trans (hb1.mono HBL.out.size)⟩
  · subst hX
    go_enter Try.func40, Try.ntmps40
    go_wp2_with (go_at_call 53; (with_reducible refine hf.mono ?_); rintro e w1 ⟨rfl, hb1⟩)
    go_ret2
    exact ⟨_, rfl, matNew_nil _ _, HBL.out.trans (hb1.mono HBL.out.size)⟩
end Go.Proofs.Ythfagnbecocgdaa
