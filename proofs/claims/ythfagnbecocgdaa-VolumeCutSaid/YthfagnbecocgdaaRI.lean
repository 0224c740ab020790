/- Apply's closure; Ramp and Apply, whole. -/
import Derived.Test.YthfagnbecocgdaaRH
namespace Go.Proofs.Ythfagnbecocgdaa
open Go.RowKit Go.Shelf Go.Deep

theorem steadyOk {g : Int} (h : gainB g = true) : RampOk 0 g 0 0 := ⟨by decide, gainB_t h, by decide, by decide⟩

set_option maxHeartbeats 2000000 in
set_option maxRecDepth 100000 in
theorem apply1_yes (b : List (List Int)) (v : Value) (Bb Bg : Nat) (g : Int) (w : World) (hM : MatIn w b v) (hv : validB b = true) (hg : gainB g = true)
    (k0 : w.cell? ⟨Bb, 0, none⟩ = some v) (k1 : w.cell? ⟨Bg, 0, none⟩ = some (.int .i64 g)) :
    Calls Try.prog 80 #[at0 Bb, at0 Bg] w (NewRet w (allM b (rampG 0 g 0 0))) := by
  have h55 := blocks_yes (l := [b]) (show allV [b] = true by simp [allV, hv]) _ _ (blk_new w b v hM)
  have h61 := gains_yes (l := [g]) (show allG [g] = true by simp [allG, hg]) _ _ (row_new (w.alloc (.cells #[v] 34)) g (by have := gainB_t hg; unfold I64; omega))
  rw [World.size_alloc] at h61
  have H51 := Lib.hid (fun (x : World) => steady_any g x)
  obtain ⟨hr1, hr8, hc, hrow⟩ := validB_parts hv
  have hcab := cell_abs hv
  obtain ⟨a, ca, rfl, hin, hal, _⟩ := id hM
  obtain ⟨bb, ob, u, rfl, hcu, hu⟩ := hin 0 (by omega)
  obtain ⟨au, cu, rfl, _, _, _⟩ := hu
  change w.cell? _ = some (Value.slice au (cols b) cu) at hcu
  simp only [Nat.add_zero] at hcu
  obtain ⟨C, hC⟩ : ∃ C, cols b = C := ⟨_, rfl⟩
  rw [hC] at hcu hc hrow
  have HX : Hid (∀ x, Below w.heap.size w x → ((x.cell? ⟨Bb, 0, none⟩ = some (.slice (some ⟨bb, ob, none⟩) b.length ca) ∧ x.cell? ⟨Bg, 0, none⟩ = some (.int .i64 g)) ∧ x.cell? ⟨bb, ob, none⟩ = some (.slice au C cu)) ∧ Below w.heap.size w x) :=
    Lib.hid fun x hx => ⟨⟨⟨(Same.of_below hx).cell k0, (Same.of_below hx).cell k1⟩, (Same.of_below hx).cell hcu⟩, hx⟩
  have H81 : Hid (∀ (R K : Nat) (x : World), Below w.heap.size w x → RampAt R 0 0 g 0 0 x → x.cell? ⟨K, 0, none⟩ = some (.int .i64 C) → Calls Try.prog 81 #[.slice (some ⟨bb, ob, none⟩) b.length ca, .func (.func 108) #[] #[at0 R, at0 K]] x (NewRet x (allM b (rampG 0 g 0 0)))) :=
    Lib.hid fun R K x hx hR hK => allScaled_any b _ 108 _ _ C x (hM.mono (Same.of_below hx)) hr8 hrow hc hcab (isGains_ramp (steadyOk hg) R K C hc x hR hK)
  have hB0 : Below w.heap.size w (w.alloc (.cells #[.slice (some ⟨bb, ob, none⟩) b.length ca] 34)) := (Below.refl _ w).alloc (Nat.le_refl _) _
  have hB1 : Below w.heap.size w ((w.alloc (.cells #[.slice (some ⟨bb, ob, none⟩) b.length ca] 34)).alloc (.cells #[.int .i64 g] 3)) := hB0.alloc (by simp) _
  have hq0 := (HX.out _ hB0).1.1.2
  have hS0 := HX.out _ hB1.drew
  have HB1 := Lib.hid hB1
  have hposI : (0 : Int) < (b.length : Int) := by omega
  have hposN : 0 < b.length := by omega
  clear hM hv hg hin hcab hrow hC hB0 hB1 k1 hcu
  go_enter Try.func80, Try.ntmps80
  go_upto_region 3 with (first
    | (go_at_call 55; (with_reducible refine h55.mono ?_); rintro e w1 ⟨rfl, rfl⟩)
    | (go_at_call 61; (with_reducible refine h61.mono ?_); rintro e w1 ⟨rfl, rfl⟩))
  clear h55 h61 k0 hq0
  refine region_T (S := fun x => (((x.cell? ⟨Bb, 0, none⟩ = some (.slice (some ⟨bb, ob, none⟩) b.length ca) ∧ x.cell? ⟨Bg, 0, none⟩ = some (.int .i64 g)) ∧ x.cell? ⟨bb, ob, none⟩ = some (.slice au C cu)) ∧ Below w.heap.size w x)) [8, 9] (by kernel_rfl) hS0 (fun _ => ?_)
  have HBW := Lib.hid (Below.drew HB1.out)
  obtain ⟨W, hW⟩ : ∃ W, ((w.alloc (.cells #[.slice (some ⟨bb, ob, none⟩) b.length ca] 34)).alloc (.cells #[.int .i64 g] 3)).drew = W := ⟨_, rfl⟩
  rw [hW] at hS0 HBW ⊢
  clear hW HB1
  refine anyT_take (i := 0) (v := ?_) rfl (by kernel_rfl) (by kernel_rfl) (by kernel_rfl) (by kernel_rfl) (fun _ _ _ h => h) (Or.inl ⟨by rfl, ?_⟩) hS0 ?_
  rotate_left
  focus ((intro wq hSw; obtain ⟨⟨⟨c0, c1⟩, c2⟩, _⟩ := hSw; go_simp); try with_reducible rfl)
  try simp only [Act.put, List.getElem_toArray, List.getElem_cons_succ, List.getElem_cons_zero, List.setIfInBounds_toArray, List.set_cons_zero, List.set_cons_succ]
  refine anyT_take (i := 1) (v := ?_) rfl (by kernel_rfl) (by kernel_rfl) (by kernel_rfl) (by kernel_rfl) (fun _ _ _ h => h) (Or.inl ⟨by rfl, ?_⟩) hS0 ?_
  rotate_left
  focus ((intro wq hSw; obtain ⟨⟨⟨c0, c1⟩, c2⟩, _⟩ := hSw; go_simp); try with_reducible rfl)
  try simp only [Act.put, List.getElem_toArray, List.getElem_cons_succ, List.getElem_cons_zero, List.setIfInBounds_toArray, List.set_cons_zero, List.set_cons_succ]
  refine anyT_take (i := 3) (v := ?_) rfl (by kernel_rfl) (by kernel_rfl) (by kernel_rfl) (by kernel_rfl) (fun _ _ _ h => h) (Or.inl ⟨by rfl, ?_⟩) hS0 ?_
  rotate_left
  focus ((intro wq hSw; obtain ⟨⟨⟨c0, c1⟩, c2⟩, _⟩ := hSw; go_simp); try with_reducible rfl)
  try simp only [Act.put, List.getElem_toArray, List.getElem_cons_succ, List.getElem_cons_zero, List.setIfInBounds_toArray, List.set_cons_zero, List.set_cons_succ]
  refine anyT_take (i := 4) (v := ?_) rfl (by kernel_rfl) (by kernel_rfl) (by kernel_rfl) (by kernel_rfl) (fun _ _ _ h => h) (Or.inl ⟨by rfl, ?_⟩) hS0 ?_
  rotate_left
  focus ((intro wq hSw; obtain ⟨⟨⟨c0, c1⟩, c2⟩, _⟩ := hSw; go_simp); try with_reducible rfl)
  try simp only [Act.put, List.getElem_toArray, List.getElem_cons_succ, List.getElem_cons_zero, List.setIfInBounds_toArray, List.set_cons_zero, List.set_cons_succ]
  refine anyT_take (i := 5) (v := ?_) rfl (by kernel_rfl) (by kernel_rfl) (by kernel_rfl) (by kernel_rfl) (fun _ _ _ h => h) (Or.inl ⟨by rfl, ?_⟩) hS0 ?_
  rotate_left
  focus ((intro wq hSw; obtain ⟨⟨⟨c0, c1⟩, c2⟩, _⟩ := hSw; go_simp); try with_reducible rfl)
  try simp only [Act.put, List.getElem_toArray, List.getElem_cons_succ, List.getElem_cons_zero, List.setIfInBounds_toArray, List.set_cons_zero, List.set_cons_succ]
  refine anyT_take (i := 6) (v := ?_) rfl (by kernel_rfl) (by kernel_rfl) (by kernel_rfl) (by kernel_rfl) (fun _ _ _ h => h) (Or.inl ⟨by rfl, ?_⟩) hS0 ?_
  rotate_left
  focus ((intro wq hSw; obtain ⟨⟨⟨c0, c1⟩, c2⟩, _⟩ := hSw; go_simp); try with_reducible rfl)
  try simp only [Act.put, List.getElem_toArray, List.getElem_cons_succ, List.getElem_cons_zero, List.setIfInBounds_toArray, List.set_cons_zero, List.set_cons_succ]
  refine anyT_one (i := 2) (by kernel_rfl) rfl (fun K hK => ?_)
  go_simp
  refine (H51.out _).mono ?_
  rintro e w2 ⟨rfl, hb2⟩
  have hS1 := HX.out _ (Below.then HBW.out (Nat.le_refl _) hb2)
  refine hK.out _ _ (fun _ => hS1) ?_
  clear hK K hb2 hS0
  try simp only [Act.put, List.getElem_toArray, List.getElem_cons_succ, List.getElem_cons_zero, List.setIfInBounds_toArray, List.set_cons_zero, List.set_cons_succ]
  refine anyT_one (i := 7) (by kernel_rfl) rfl (fun K hK => ?_)
  have h57 := gainsOf_any 0 g 0 0 C w2
  unfold rampV at h57
  unfold rampV
  go_simp
  refine h57.mono ?_
  rintro e wk ⟨rfl, rfl⟩
  have hbk : Below w.heap.size w ((w2.alloc (.cells #[.int .i64 0, .int .i64 g, .int .i64 0, .int .i64 0] 77)).alloc (.cells #[.int .i64 C] 3)) := (hS1.2.alloc hS1.2.size _).alloc (by have := hS1.2.size; simp; omega) _
  have hS2 := HX.out _ hbk
  refine hK.out _ _ (fun _ => hS2) ?_
  clear hK K h57 hS1
  try simp only [Act.put, List.getElem_toArray, List.getElem_cons_succ, List.getElem_cons_zero, List.setIfInBounds_toArray, List.set_cons_zero, List.set_cons_succ]
  refine anyT_one (i := 8) (by kernel_rfl) rfl (fun K hK => ?_)
  have h81 := H81.out w2.heap.size (w2.heap.size + 1) _ hbk ⟨by simp [go_sem], by simp [go_sem], by simp [go_sem], by simp [go_sem]⟩ (by simp [go_sem])
  have hsz : w.heap.size ≤ ((w2.alloc (.cells #[.int .i64 0, .int .i64 g, .int .i64 0, .int .i64 0] 77)).alloc (.cells #[.int .i64 C] 3)).heap.size := hbk.size
  go_simp
  refine h81.mono ?_
  rintro e wk ⟨u1, rfl, hm, hb⟩
  have HM := Lib.hid (show MatNew w.heap.size wk (allM b (rampG 0 g 0 0)) u1 from fun w2 h2 => hm w2 fun k hk hlt => h2 k (Nat.le_trans hsz hk) hlt)
  have HBF := Lib.hid (Below.then hbk (Nat.le_refl _) hb)
  clear hm hb hS2 hbk h81 hsz
  refine hK.out _ _ (fun h => by cases h) ?_
  clear hK K
  try simp only [Act.put, List.getElem_toArray, List.getElem_cons_succ, List.getElem_cons_zero, List.setIfInBounds_toArray, List.set_cons_zero, List.set_cons_succ]
  refine anyT_one (i := 9) (by kernel_rfl) rfl (fun K hK => ?_)
  go_simp
  refine hK.out _ _ (fun h => by cases h) ?_
  clear hK K
  refine anyT_done (by kernel_rfl) ?_ _
  go_wp2_with fail
  go_ret
  exact ⟨_, rfl, HM.out, HBF.out⟩

set_option maxRecDepth 100000 in
theorem apply1_bad (b : List (List Int)) (v : Value) (Bb Bg : Nat) (w : World) (hM : MatIn w b v) (hv : validB b = false) (k0 : w.cell? ⟨Bb, 0, none⟩ = some v) : Calls Try.prog 80 #[at0 Bb, at0 Bg] w (LeavesX 1 w) := by
  have h55 := blocks_no (l := [b]) (show allV [b] = false by simp [allV, hv]) _ _ (blk_new w b v hM)
  obtain ⟨a, ca, rfl, _, _, _⟩ := hM
  clear hv
  go_enter Try.func80, Try.ntmps80
  go_wp2_with (go_at_call 55; (with_reducible refine h55.mono ?_); rintro e w1 ⟨rfl, rfl⟩)
  exact ⟨rfl, rfl, (Below.refl _ w).alloc (Nat.le_refl _) _⟩
set_option maxRecDepth 100000 in
theorem apply1_no (b : List (List Int)) (v : Value) (Bb Bg : Nat) (g : Int) (hI : I64 g) (w : World) (hM : MatIn w b v) (hv : validB b = true) (hg : gainB g = false) (k0 : w.cell? ⟨Bb, 0, none⟩ = some v) (k1 : w.cell? ⟨Bg, 0, none⟩ = some (.int .i64 g)) : Calls Try.prog 80 #[at0 Bb, at0 Bg] w (LeavesX 7 w) := by
  have h55 := blocks_yes (l := [b]) (show allV [b] = true by simp [allV, hv]) _ _ (blk_new w b v hM)
  have h61 := gains_no (l := [g]) (show allG [g] = false by simp [allG, hg]) _ _ (row_new (w.alloc (.cells #[v] 34)) g hI)
  rw [World.size_alloc] at h61
  obtain ⟨a, ca, rfl, _, _, _⟩ := hM
  have k2 := (Same.alloc w (.cells #[.slice a b.length ca] 34)).cell k1
  clear hv hg hI
  go_enter Try.func80, Try.ntmps80
  go_wp2_with (first | (go_at_call 55; (with_reducible refine h55.mono ?_); rintro e w1 ⟨rfl, rfl⟩) | (go_at_call 61; (with_reducible refine h61.mono ?_); rintro e w1 ⟨rfl, rfl⟩))
  exact ⟨rfl, rfl, ((Below.refl _ w).alloc (Nat.le_refl _) _).alloc (by simp) _⟩
set_option maxRecDepth 100000 in
theorem ramp1_bad (b : List (List Int)) (v : Value) (Bb B1 B2 B3 : Nat) (w : World) (hM : MatIn w b v) (hv : validB b = false) (k0 : w.cell? ⟨Bb, 0, none⟩ = some v) : Calls Try.prog 82 #[at0 Bb, at0 B1, at0 B2, at0 B3] w (LeavesX 1 w) := by
  have h55 := blocks_no (l := [b]) (show allV [b] = false by simp [allV, hv]) _ _ (blk_new w b v hM)
  obtain ⟨a, ca, rfl, _, _, _⟩ := hM
  clear hv
  go_enter Try.func82, Try.ntmps82
  go_wp2_with (go_at_call 55; (with_reducible refine h55.mono ?_); rintro e w1 ⟨rfl, rfl⟩)
  exact ⟨rfl, rfl, (Below.refl _ w).alloc (Nat.le_refl _) _⟩
set_option maxRecDepth 100000 in
theorem ramp1_no (b : List (List Int)) (v : Value) (Bb B1 B2 B3 : Nat) (f t n : Int) (hIf : I64 f) (hIt : I64 t) (w : World) (hM : MatIn w b v) (hv : validB b = true) (hr : rampB f t n = false)
    (k0 : w.cell? ⟨Bb, 0, none⟩ = some v) (k1 : w.cell? ⟨B1, 0, none⟩ = some (.int .i64 f)) (k2 : w.cell? ⟨B2, 0, none⟩ = some (.int .i64 t)) (k3 : w.cell? ⟨B3, 0, none⟩ = some (.int .i64 n)) : Calls Try.prog 82 #[at0 Bb, at0 B1, at0 B2, at0 B3] w (LeavesX 7 w) := by
  have h55 := blocks_yes (l := [b]) (show allV [b] = true by simp [allV, hv]) _ _ (blk_new w b v hM)
  have h83 := rampOf_no hIf hIt hr (w.alloc (.cells #[v] 34))
  obtain ⟨a, ca, rfl, _, _, _⟩ := hM
  have q1 := (Same.alloc w (.cells #[.slice a b.length ca] 34)).cell k1
  have q2 := (Same.alloc w (.cells #[.slice a b.length ca] 34)).cell k2
  have q3 := (Same.alloc w (.cells #[.slice a b.length ca] 34)).cell k3
  clear hv hr hIf hIt
  go_enter Try.func82, Try.ntmps82
  go_wp2_with (first | (go_at_call 55; (with_reducible refine h55.mono ?_); rintro e w1 ⟨rfl, rfl⟩) | (go_at_call 83; (with_reducible refine h83.mono ?_); rintro e w1 ⟨rfl, hb1⟩))
  exact ⟨rfl, rfl, Below.then ((Below.refl _ w).alloc (Nat.le_refl _) _) (Nat.le_refl _) hb1⟩

def rampK (b : List (List Int)) (f t n : Int) : Int := if validB b = false then 1 else if rampB f t n = false then 7 else 0
def rampM (b : List (List Int)) (f t n : Int) : List (List Int) := if rampK b f t n = 0 then allM b (fun i => grownI f t n i) else []
theorem rampG_zero {f t n : Int} (hn : 0 ≤ n) (i : Nat) : rampG f t n 0 i = grownI f t n i := by
  unfold rampG grownI
  by_cases h : n ≤ (i : Int)
  · rw [if_pos (by omega), if_pos h]
  · rw [show min (0 + (i : Int)) n = i by omega]
theorem rampG_steady (g : Int) (i : Nat) : rampG 0 g 0 0 i = grownI g g 0 i := by
  unfold rampG grownI
  rw [if_pos (by omega), if_pos (by omega)]
theorem allM_congr {b : List (List Int)} {G H : Nat → Int} (h : ∀ i, G i = H i) : allM b G = allM b H := by rw [show G = H from funext h]
theorem rampM_yes {b : List (List Int)} {f t n : Int} (hv : validB b = true) (h : rampB f t n = true) : rampK b f t n = 0 ∧ rampM b f t n = allM b (rampG f t n 0) := by
  have hk : rampK b f t n = 0 := by simp [rampK, hv, h]
  refine ⟨hk, ?_⟩
  unfold rampM
  rw [if_pos hk]
  exact allM_congr fun i => (rampG_zero (by have := (rampOk_of h).hn; omega) i).symm
theorem applyM_yes {b : List (List Int)} {g : Int} (hv : validB b = true) (h : gainB g = true) : rampK b g g 0 = 0 ∧ rampM b g g 0 = allM b (rampG 0 g 0 0) := by
  have hr : rampB g g 0 = true := by simp [rampB, h, timeB]
  have hk : rampK b g g 0 = 0 := by simp [rampK, hv, hr]
  refine ⟨hk, ?_⟩
  unfold rampM
  rw [if_pos hk]
  exact allM_congr fun i => (rampG_steady g i).symm

set_option maxRecDepth 100000 in
theorem ramp_any (b : List (List Int)) (v : Value) (f t n : Int) (hIf : I64 f) (hIt : I64 t) (w : World) (hM : MatIn w b v) : Calls Try.prog 27 #[.int .i64 f, .int .i64 t, .int .i64 n, v] w (NewAns w (rampM b f t n) (rampK b f t n)) := by
  have hmf := makes
  obtain ⟨X, hX⟩ : ∃ X, Obj.cells #[.int .i64 f] 3 = X := ⟨_, rfl⟩
  obtain ⟨Y, hY⟩ : ∃ Y, Obj.cells #[.int .i64 t] 3 = Y := ⟨_, rfl⟩
  obtain ⟨V, hV⟩ : ∃ V, Obj.cells #[.int .i64 n] 3 = V := ⟨_, rfl⟩
  obtain ⟨U, hU⟩ : ∃ U, Obj.cells #[v] 34 = U := ⟨_, rfl⟩
  have hbel : Below w.heap.size w ((((w.alloc X).alloc Y).alloc V).alloc U) := ((((Below.refl _ w).alloc (Nat.le_refl _) _).alloc (by simp) _).alloc (by simp <;> omega) _).alloc (by simp <;> omega) _
  have hv1 : v.oneCell' = true := by obtain ⟨a, ca, rfl, _⟩ := hM; rfl
  have c0 : ∀ Z, (((((w.alloc X).alloc Y).alloc V).alloc U).alloc Z).cell? ⟨w.heap.size, 0, none⟩ = some (.int .i64 f) := fun Z => by
    refine (Same.alloc _ Z).cell ((Same.alloc _ U).cell ((Same.alloc _ V).cell ((Same.alloc _ Y).cell ?_))); rw [← hX]; simp [go_sem]
  have c1 : ∀ Z, (((((w.alloc X).alloc Y).alloc V).alloc U).alloc Z).cell? ⟨w.heap.size + 1, 0, none⟩ = some (.int .i64 t) := fun Z => by
    refine (Same.alloc _ Z).cell ((Same.alloc _ U).cell ((Same.alloc _ V).cell ?_)); rw [← hY]; simp [go_sem]
  have c2 : ∀ Z, (((((w.alloc X).alloc Y).alloc V).alloc U).alloc Z).cell? ⟨w.heap.size + 1 + 1, 0, none⟩ = some (.int .i64 n) := fun Z => by
    refine (Same.alloc _ Z).cell ((Same.alloc _ U).cell ?_); rw [← hV]; simp [go_sem]
  have c3 : ∀ Z, (((((w.alloc X).alloc Y).alloc V).alloc U).alloc Z).cell? ⟨w.heap.size + 1 + 1 + 1, 0, none⟩ = some v := fun Z => by
    refine (Same.alloc _ Z).cell ?_; rw [← hU]; simp [go_sem]
  have hM2 : ∀ Z, MatIn (((((w.alloc X).alloc Y).alloc V).alloc U).alloc Z) b v := fun Z => hM.mono ((Same.of_below hbel).trans (by simp <;> omega) (Same.alloc _ Z))
  have hcl : (rampK b f t n = 0 ∧ Calls Try.prog 53 #[.func (.func 82) #[] #[at0 (w.heap.size + 1 + 1 + 1), at0 w.heap.size, at0 (w.heap.size + 1), at0 (w.heap.size + 1 + 1)]] ((((w.alloc X).alloc Y).alloc V).alloc U) (NewAns ((((w.alloc X).alloc Y).alloc V).alloc U) (rampM b f t n) 0)) ∨
      (rampM b f t n = [] ∧ Calls Try.prog 53 #[.func (.func 82) #[] #[at0 (w.heap.size + 1 + 1 + 1), at0 w.heap.size, at0 (w.heap.size + 1), at0 (w.heap.size + 1 + 1)]] ((((w.alloc X).alloc Y).alloc V).alloc U) fun e w' => e = .returned (.tuple #[.slice none 0 0, .int .i64 (rampK b f t n)]) ∧ Below ((((w.alloc X).alloc Y).alloc V).alloc U).heap.size ((((w.alloc X).alloc Y).alloc V).alloc U) w') := by
    have he := enters_of Try.func82 (by kernel_rfl) rfl
    cases hv : validB b with
    | false =>
      have hk : rampK b f t n = 1 := by simp [rampK, hv]
      refine .inr ⟨by simp [rampM, hk], ?_⟩
      rw [hk]
      exact fitted53_no 82 _ 1 _ (he _) (ramp1_bad b v _ _ _ _ _ (hM2 _) hv (c3 _))
    | true =>
      cases hr : rampB f t n with
      | false =>
        have hk : rampK b f t n = 7 := by simp [rampK, hv, hr]
        refine .inr ⟨by simp [rampM, hk], ?_⟩
        rw [hk]
        exact fitted53_no 82 _ 7 _ (he _) (ramp1_no b v _ _ _ _ f t n hIf hIt _ (hM2 _) hv hr (c3 _) (c0 _) (c1 _) (c2 _))
      | true =>
        obtain ⟨hk, hm⟩ := rampM_yes hv hr
        refine .inl ⟨hk, ?_⟩
        rw [hm]
        exact fitted53_mat 82 _ _ _ (he _) (ramp1_yes b v _ _ _ _ f t n _ (hM2 _) hv hr (c3 _) (c0 _) (c1 _) (c2 _))
  obtain ⟨a, ca, rfl, _, _, _⟩ := id hM
  generalize rampM b f t n = M at *
  generalize rampK b f t n = Kk at *
  have HBL := Lib.hid hbel
  clear hbel c0 c1 c2 c3 hM2 hM hIf hIt
  rcases hcl with ⟨rfl, hf⟩ | ⟨rfl, hf⟩
  · subst hX
    subst hY
    subst hV
    subst hU
    go_enter Try.func27, Try.ntmps27
    go_wp2_with (go_at_call 53; (with_reducible refine hf.mono ?_); rintro e w1 ⟨u, rfl, hu, hb1⟩; have HU := Lib.hid hu; clear hu)
    go_ret2
    exact ⟨_, rfl, HU.out.mono HBL.out.size (Nat.le_refl _) fun _ _ _ => rfl, HBL.out.trans (hb1.mono HBL.out.size)⟩
  · subst hX
    subst hY
    subst hV
    subst hU
    go_enter Try.func27, Try.ntmps27
    go_wp2_with (go_at_call 53; (with_reducible refine hf.mono ?_); rintro e w1 ⟨rfl, hb1⟩)
    go_ret2
    exact ⟨_, rfl, matNew_nil _ _, HBL.out.trans (hb1.mono HBL.out.size)⟩

set_option maxRecDepth 100000 in
theorem apply_any (b : List (List Int)) (v : Value) (g : Int) (hI : I64 g) (w : World) (hM : MatIn w b v) : Calls Try.prog 25 #[.int .i64 g, v] w (NewAns w (rampM b g g 0) (rampK b g g 0)) := by
  have hmf := makes
  obtain ⟨X, hX⟩ : ∃ X, Obj.cells #[.int .i64 g] 3 = X := ⟨_, rfl⟩
  obtain ⟨U, hU⟩ : ∃ U, Obj.cells #[v] 34 = U := ⟨_, rfl⟩
  have hbel : Below w.heap.size w ((w.alloc X).alloc U) := (((Below.refl _ w).alloc (Nat.le_refl _) _).alloc (by simp) _)
  have hv1 : v.oneCell' = true := by obtain ⟨a, ca, rfl, _⟩ := hM; rfl
  have c0 : ∀ Z, (((w.alloc X).alloc U).alloc Z).cell? ⟨w.heap.size, 0, none⟩ = some (.int .i64 g) := fun Z => by
    refine (Same.alloc _ Z).cell ((Same.alloc _ U).cell ?_); rw [← hX]; simp [go_sem]
  have c3 : ∀ Z, (((w.alloc X).alloc U).alloc Z).cell? ⟨w.heap.size + 1, 0, none⟩ = some v := fun Z => by
    refine (Same.alloc _ Z).cell ?_; rw [← hU]; simp [go_sem]
  have hM2 : ∀ Z, MatIn (((w.alloc X).alloc U).alloc Z) b v := fun Z => hM.mono ((Same.of_below hbel).trans (by simp <;> omega) (Same.alloc _ Z))
  have hcl : (rampK b g g 0 = 0 ∧ Calls Try.prog 53 #[.func (.func 80) #[] #[at0 (w.heap.size + 1), at0 w.heap.size]] ((w.alloc X).alloc U) (NewAns ((w.alloc X).alloc U) (rampM b g g 0) 0)) ∨
      (rampM b g g 0 = [] ∧ Calls Try.prog 53 #[.func (.func 80) #[] #[at0 (w.heap.size + 1), at0 w.heap.size]] ((w.alloc X).alloc U) fun e w' => e = .returned (.tuple #[.slice none 0 0, .int .i64 (rampK b g g 0)]) ∧ Below ((w.alloc X).alloc U).heap.size ((w.alloc X).alloc U) w') := by
    have he := enters_of Try.func80 (by kernel_rfl) rfl
    cases hv : validB b with
    | false =>
      have hk : rampK b g g 0 = 1 := by simp [rampK, hv]
      refine .inr ⟨by simp [rampM, hk], ?_⟩
      rw [hk]
      exact fitted53_no 80 _ 1 _ (he _) (apply1_bad b v _ _ _ (hM2 _) hv (c3 _))
    | true =>
      cases hr : gainB g with
      | false =>
        have hk : rampK b g g 0 = 7 := by simp [rampK, rampB, hv, hr]
        refine .inr ⟨by simp [rampM, hk], ?_⟩
        rw [hk]
        exact fitted53_no 80 _ 7 _ (he _) (apply1_no b v _ _ g hI _ (hM2 _) hv hr (c3 _) (c0 _))
      | true =>
        obtain ⟨hk, hm⟩ := applyM_yes hv hr
        refine .inl ⟨hk, ?_⟩
        rw [hm]
        exact fitted53_mat 80 _ _ _ (he _) (apply1_yes b v _ _ g _ (hM2 _) hv hr (c3 _) (c0 _))
  obtain ⟨a, ca, rfl, _, _, _⟩ := id hM
  generalize rampM b g g 0 = M at *
  generalize rampK b g g 0 = Kk at *
  have HBL := Lib.hid hbel
  clear hbel c0 c3 hM2 hM hI
  rcases hcl with ⟨rfl, hf⟩ | ⟨rfl, hf⟩
  · subst hX
    subst hU
    go_enter Try.func25, Try.ntmps25
    go_wp2_with (go_at_call 53; (with_reducible refine hf.mono ?_); rintro e w1 ⟨u, rfl, hu, hb1⟩; have HU := Lib.hid hu; clear hu)
    go_ret2
    exact ⟨_, rfl, HU.out.mono HBL.out.size (Nat.le_refl _) fun _ _ _ => rfl, HBL.out.trans (hb1.mono HBL.out.size)⟩
  · subst hX
    subst hU
    go_enter Try.func25, Try.ntmps25
    go_wp2_with (go_at_call 53; (with_reducible refine hf.mono ?_); rintro e w1 ⟨rfl, hb1⟩)
    go_ret2
    exact ⟨_, rfl, matNew_nil _ _, HBL.out.trans (hb1.mono HBL.out.size)⟩
end Go.Proofs.Ythfagnbecocgdaa
