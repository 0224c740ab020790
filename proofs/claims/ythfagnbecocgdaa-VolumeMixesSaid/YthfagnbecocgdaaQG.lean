/- Duck: the program's, whole. -/
import Derived.Test.YthfagnbecocgdaaQF
namespace Go.Proofs.Ythfagnbecocgdaa
open Go.RowKit Go.Shelf Go.Deep

def duckK (b y : List (List Int)) (bd g : Int) : Int := if allV [b, y] = false then 1 else if boundB bd = false then 7 else if gainB g = false then 7 else if cols b = cols y then 0 else 11
def duckR (b y : List (List Int)) (bd g : Int) : List (List Int) := if duckK b y bd g = 0 then allM b (duckG y bd g) else []
theorem allV2 {b y : List (List Int)} (h : allV [b, y] = true) : validB b = true ∧ validB y = true := by simpa [allV] using h

set_option maxRecDepth 100000 in
theorem duck_any (b y : List (List Int)) (v vy : Value) (bd g : Int) (hI : I64 g) (w : World) (hM : MatIn w b v) (hMy : MatIn w y vy) : Calls Try.prog 42 #[v, vy, .int .i64 bd, .int .i64 g] w (NewAns w (duckR b y bd g) (duckK b y bd g)) := by
  have hmf := makes
  obtain ⟨X, hX⟩ : ∃ X, Obj.cells #[v] 34 = X := ⟨_, rfl⟩
  obtain ⟨Y, hY⟩ : ∃ Y, Obj.cells #[vy] 34 = Y := ⟨_, rfl⟩
  obtain ⟨V, hV⟩ : ∃ V, Obj.cells #[.int .i64 bd] 3 = V := ⟨_, rfl⟩
  obtain ⟨U, hU⟩ : ∃ U, Obj.cells #[.int .i64 g] 3 = U := ⟨_, rfl⟩
  have hbel : Below w.heap.size w ((((w.alloc X).alloc Y).alloc V).alloc U) := ((((Below.refl _ w).alloc (Nat.le_refl _) _).alloc (by simp) _).alloc (by simp <;> omega) _).alloc (by simp <;> omega) _
  have hv1 : v.oneCell' = true := by obtain ⟨a, ca, rfl, _⟩ := hM; rfl
  have hv2 : vy.oneCell' = true := by obtain ⟨a, ca, rfl, _⟩ := hMy; rfl
  have c0 : ∀ Z, (((((w.alloc X).alloc Y).alloc V).alloc U).alloc Z).cell? ⟨w.heap.size, 0, none⟩ = some v := fun Z => by
    refine (Same.alloc _ Z).cell ((Same.alloc _ U).cell ((Same.alloc _ V).cell ((Same.alloc _ Y).cell ?_))); rw [← hX]; simp [go_sem]
  have c1 : ∀ Z, (((((w.alloc X).alloc Y).alloc V).alloc U).alloc Z).cell? ⟨w.heap.size + 1, 0, none⟩ = some vy := fun Z => by
    refine (Same.alloc _ Z).cell ((Same.alloc _ U).cell ((Same.alloc _ V).cell ?_)); rw [← hY]; simp [go_sem]
  have c2 : ∀ Z, (((((w.alloc X).alloc Y).alloc V).alloc U).alloc Z).cell? ⟨w.heap.size + 1 + 1, 0, none⟩ = some (.int .i64 bd) := fun Z => by
    refine (Same.alloc _ Z).cell ((Same.alloc _ U).cell ?_); rw [← hV]; simp [go_sem]
  have c3 : ∀ Z, (((((w.alloc X).alloc Y).alloc V).alloc U).alloc Z).cell? ⟨w.heap.size + 1 + 1 + 1, 0, none⟩ = some (.int .i64 g) := fun Z => by
    refine (Same.alloc _ Z).cell ?_; rw [← hU]; simp [go_sem]
  have hM2 : ∀ Z, MatIn (((((w.alloc X).alloc Y).alloc V).alloc U).alloc Z) b v := fun Z => hM.mono ((Same.of_below hbel).trans (by simp <;> omega) (Same.alloc _ Z))
  have hM3 : ∀ Z, MatIn (((((w.alloc X).alloc Y).alloc V).alloc U).alloc Z) y vy := fun Z => hMy.mono ((Same.of_below hbel).trans (by simp <;> omega) (Same.alloc _ Z))
  have hcl : (duckK b y bd g = 0 ∧ Calls Try.prog 53 #[.func (.func 101) #[] #[at0 w.heap.size, at0 (w.heap.size + 1), at0 (w.heap.size + 1 + 1), at0 (w.heap.size + 1 + 1 + 1)]] ((((w.alloc X).alloc Y).alloc V).alloc U) (NewAns ((((w.alloc X).alloc Y).alloc V).alloc U) (duckR b y bd g) 0)) ∨
      (duckR b y bd g = [] ∧ Calls Try.prog 53 #[.func (.func 101) #[] #[at0 w.heap.size, at0 (w.heap.size + 1), at0 (w.heap.size + 1 + 1), at0 (w.heap.size + 1 + 1 + 1)]] ((((w.alloc X).alloc Y).alloc V).alloc U) fun e w' => e = .returned (.tuple #[.slice none 0 0, .int .i64 (duckK b y bd g)]) ∧ Below ((((w.alloc X).alloc Y).alloc V).alloc U).heap.size ((((w.alloc X).alloc Y).alloc V).alloc U) w') := by
    have he := enters_of Try.func101 (by kernel_rfl) rfl
    cases hv : allV [b, y] with
    | false =>
      have hk : duckK b y bd g = 1 := by unfold duckK; rw [if_pos hv]
      refine .inr ⟨by unfold duckR; rw [hk]; rfl, ?_⟩
      rw [hk]
      exact fitted53_no 101 _ 1 _ (he _) (duck1_bad b y v vy _ _ _ _ _ (hM2 _) (hM3 _) hv (c0 _) (c1 _))
    | true =>
      have hnv : ¬ allV [b, y] = false := by rw [hv]; decide
      cases hb : boundB bd with
      | false =>
        have hk : duckK b y bd g = 7 := by unfold duckK; rw [if_neg hnv, if_pos hb]
        refine .inr ⟨by unfold duckR; rw [hk]; rfl, ?_⟩
        rw [hk]
        exact fitted53_no 101 _ 7 _ (he _) (duck1_bound b y v vy _ _ _ _ bd _ (hM2 _) (hM3 _) hv hb (c0 _) (c1 _) (c2 _))
      | true =>
        have hnb : ¬ boundB bd = false := by rw [hb]; decide
        cases hg : gainB g with
        | false =>
          have hk : duckK b y bd g = 7 := by unfold duckK; rw [if_neg hnv, if_neg hnb, if_pos hg]
          refine .inr ⟨by unfold duckR; rw [hk]; rfl, ?_⟩
          rw [hk]
          exact fitted53_no 101 _ 7 _ (he _) (duck1_gain b y v vy _ _ _ _ bd g hI _ (hM2 _) (hM3 _) hv hb hg (c0 _) (c1 _) (c2 _) (c3 _))
        | true =>
          have hng : ¬ gainB g = false := by rw [hg]; decide
          by_cases hc : cols b = cols y
          · have hk : duckK b y bd g = 0 := by unfold duckK; rw [if_neg hnv, if_neg hnb, if_neg hng, if_pos hc]
            refine .inl ⟨hk, ?_⟩
            rw [show duckR b y bd g = allM b (duckG y bd g) by unfold duckR; rw [if_pos hk]]
            exact fitted53_mat 101 _ _ _ (he _) (duck1_yes b y v vy _ _ _ _ bd g _ (hM2 _) (hM3 _) (allV2 hv).1 (allV2 hv).2 hb hg hc (c0 _) (c1 _) (c2 _) (c3 _))
          · have hk : duckK b y bd g = 11 := by unfold duckK; rw [if_neg hnv, if_neg hnb, if_neg hng, if_neg hc]
            refine .inr ⟨by unfold duckR; rw [hk]; rfl, ?_⟩
            rw [hk]
            exact fitted53_no 101 _ 11 _ (he _) (duck1_size b y v vy _ _ _ _ bd g _ (hM2 _) (hM3 _) (allV2 hv).1 (allV2 hv).2 hb hg hc (c0 _) (c1 _) (c2 _) (c3 _))
  obtain ⟨a, ca, rfl, _, _, _⟩ := id hM
  obtain ⟨ay, cy, rfl, _, _, _⟩ := id hMy
  generalize duckR b y bd g = M at *
  generalize duckK b y bd g = Kk at *
  have HBL := Lib.hid hbel
  clear hbel c0 c1 c2 c3 hM2 hM3 hM hMy hI
  rcases hcl with ⟨rfl, hf⟩ | ⟨rfl, hf⟩
  · subst hX
    subst hY
    subst hV
    subst hU
    go_enter Try.func42, Try.ntmps42
    go_wp2_with (go_at_call 53; (with_reducible refine hf.mono ?_); rintro e w1 ⟨u, rfl, hu, hb1⟩; have HU := Lib.hid hu; clear hu)
    go_ret2
    exact ⟨_, rfl, HU.out.mono HBL.out.size (Nat.le_refl _) fun _ _ _ => rfl, HBL.out.trans (hb1.mono HBL.out.size)⟩
  · subst hX
    subst hY
    subst hV
    subst hU
    go_enter Try.func42, Try.ntmps42
    go_wp2_with (go_at_call 53; (with_reducible refine hf.mono ?_); rintro e w1 ⟨rfl, hb1⟩)
    go_ret2
    exact ⟨_, rfl, matNew_nil _ _, HBL.out.trans (hb1.mono HBL.out.size)⟩
end Go.Proofs.Ythfagnbecocgdaa
