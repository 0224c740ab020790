/- Ramp and Apply: the program's. -/
import Derived.Test.YthfagnbecocgdaaRG
import Derived.Test.YthfagnbecocgdaaCA
namespace Go.Proofs.Ythfagnbecocgdaa
open Go.RowKit Go.Shelf Go.Deep

def NewAns (w : World) (m : List (List Int)) (k : Int) (e : Ending) (w' : World) : Prop := ∃ u, e = .returned (.tuple #[u, .int .i64 k]) ∧ MatNew w.heap.size w' m u ∧ Below w.heap.size w w'
def NewRet (w : World) (m : List (List Int)) (e : Ending) (w' : World) : Prop := ∃ u, e = .returned u ∧ MatNew w.heap.size w' m u ∧ Below w.heap.size w w'
theorem matNew_nil (B : Nat) (w : World) : MatNew B w [] (.slice none 0 0) := fun w' _ => mat_nil w'
theorem fitted53_mat (f : FuncId) (caps : Array Value) (w : World) (M : List (List Int)) (hcf : ∀ w : World, (callFunc f caps).run Try.prog w = .ok (.enter f caps) w)
    (hc : Calls Try.prog f caps (w.alloc (.cells #[.int .i64 0] 26)) (NewRet (w.alloc (.cells #[.int .i64 0] 26)) M)) : Calls Try.prog 53 #[.func (.func f) #[] caps] w (NewAns w M 0) := by
  refine (fitted53_new f caps w (fun u w' => MatNew (w.heap.size + 1) w' M u) (fun u w1 w2 he h w' h2 => h w' fun k hk hlt => ?_) hcf ?_).mono ?_
  · have h1 := he k (by omega) hlt
    have hlt2 : k < w2.heap.size := by
      rw [Array.getElem?_eq_getElem hlt] at h1
      exact (Array.getElem?_eq_some_iff.1 h1).1
    exact (h2 k hk hlt2).trans h1
  · refine hc.mono ?_
    rintro e w' ⟨u, h1, h2, h3⟩
    rw [World.size_alloc] at h2
    exact ⟨u, h1, h2, h3⟩
  · rintro e w' ⟨u, h1, h2, h3⟩
    exact ⟨u, h1, fun w2 hw => h2 w2 fun k hk hlt => hw k (by omega) hlt, h3⟩

theorem rampOk_of {f t n : Int} (h : rampB f t n = true) : RampOk f t n 0 := by
  unfold rampB at h
  rw [Bool.and_eq_true, Bool.and_eq_true] at h
  exact ⟨gainB_t h.1.1, gainB_t h.1.2, timeB_t h.2, by have := timeB_t h.2; omega⟩
theorem cell_abs {b : List (List Int)} (h : validB b = true) (j i : Nat) : ((b.getD j []).getD i 0).natAbs ≤ 8388607 := by
  by_cases hj : j < b.length
  · unfold validB at h
    rw [Bool.and_eq_true, Bool.and_eq_true] at h
    have := all_at (d := []) h.2 hj
    unfold rowOk at this
    rw [Bool.and_eq_true] at this
    by_cases hi : i < (b.getD j []).length
    · have h3 := all_at (d := 0) (show List.all (b.getD j []) (inB 8388607) = true from this.2) hi
      simp [inB] at h3
      simp only [List.getD_eq_getElem?_getD] at h3 ⊢
      omega
    · simp [List.getD, List.getElem?_eq_none (show (b.getD j []).length ≤ i by omega)] at *
      simp [hi]
  · simp [List.getD, List.getElem?_eq_none (show b.length ≤ j by omega)]

set_option maxHeartbeats 2000000 in
set_option maxRecDepth 100000 in
theorem ramp1_yes (b : List (List Int)) (v : Value) (Bb B1 B2 B3 : Nat) (f t n : Int) (w : World) (hM : MatIn w b v) (hv : validB b = true) (hr : rampB f t n = true)
    (k0 : w.cell? ⟨Bb, 0, none⟩ = some v) (k1 : w.cell? ⟨B1, 0, none⟩ = some (.int .i64 f)) (k2 : w.cell? ⟨B2, 0, none⟩ = some (.int .i64 t)) (k3 : w.cell? ⟨B3, 0, none⟩ = some (.int .i64 n)) :
    Calls Try.prog 82 #[at0 Bb, at0 B1, at0 B2, at0 B3] w (NewRet w (allM b (rampG f t n 0))) := by
  have h55 := blocks_yes (l := [b]) (show allV [b] = true by simp [allV, hv]) _ _ (blk_new w b v hM)
  have H83 := Lib.hid (fun (x : World) => rampOf_yes hr x)
  obtain ⟨hr1, hr8, hc, hrow⟩ := validB_parts hv
  have hcab := cell_abs hv
  obtain ⟨a, ca, rfl, hin, hal, _⟩ := id hM
  obtain ⟨bb, ob, u, rfl, hcu, hu⟩ := hin 0 (by omega)
  obtain ⟨au, cu, rfl, _, _, _⟩ := hu
  change w.cell? _ = some (Value.slice au (cols b) cu) at hcu
  simp only [Nat.add_zero] at hcu
  obtain ⟨C, hC⟩ : ∃ C, cols b = C := ⟨_, rfl⟩
  rw [hC] at hcu hc hrow
  have HX : Hid (∀ x, Below w.heap.size w x → ((x.cell? ⟨Bb, 0, none⟩ = some (.slice (some ⟨bb, ob, none⟩) b.length ca) ∧ x.cell? ⟨B1, 0, none⟩ = some (.int .i64 f)) ∧ x.cell? ⟨B2, 0, none⟩ = some (.int .i64 t) ∧ x.cell? ⟨B3, 0, none⟩ = some (.int .i64 n)) ∧ x.cell? ⟨bb, ob, none⟩ = some (.slice au C cu)) :=
    Lib.hid fun x hx => ⟨⟨⟨(Same.of_below hx).cell k0, (Same.of_below hx).cell k1⟩, (Same.of_below hx).cell k2, (Same.of_below hx).cell k3⟩, (Same.of_below hx).cell hcu⟩
  have H81 : Hid (∀ (R K : Nat) (x : World), Below w.heap.size w x → RampAt R 0 f t n 0 x → x.cell? ⟨K, 0, none⟩ = some (.int .i64 C) → Calls Try.prog 81 #[.slice (some ⟨bb, ob, none⟩) b.length ca, .func (.func 108) #[] #[at0 R, at0 K]] x (NewRet x (allM b (rampG f t n 0)))) :=
    Lib.hid fun R K x hx hR hK => allScaled_any b _ 108 _ _ C x (hM.mono (Same.of_below hx)) hr8 hrow hc hcab (isGains_ramp (rampOk_of hr) R K C hc x hR hK)
  have hB0 : Below w.heap.size w (w.alloc (.cells #[.slice (some ⟨bb, ob, none⟩) b.length ca] 34)) := (Below.refl _ w).alloc (Nat.le_refl _) _
  obtain ⟨⟨⟨c0, c1⟩, c2, c3⟩, c4⟩ := HX.out _ hB0
  have HB0 := Lib.hid hB0
  have hposI : (0 : Int) < (b.length : Int) := by omega
  have hposN : 0 < b.length := by omega
  clear hM hv hr hin hcab hrow hC hB0 k1 k2 k3 hcu c4
  go_enter Try.func82, Try.ntmps82
  go_upto_region 3 with (first
    | (go_at_call 55; (with_reducible refine h55.mono ?_); rintro e w1 ⟨rfl, rfl⟩)
    | (go_at_call 83; (with_reducible refine (H83.out _).mono ?_); rintro e w1 ⟨rfl, hb1⟩; unfold rampV; have HB1 := Lib.hid (Below.then HB0.out (Nat.le_refl _) hb1); clear hb1))
  clear c0 c1 c2 c3 h55 k0
  have hS : ∀ x, Below (w1.heap.size + 1) (w1.alloc (.cells #[.int .i64 f, .int .i64 t, .int .i64 n, .int .i64 0] 77)) x → (((x.cell? ⟨Bb, 0, none⟩ = some (.slice (some ⟨bb, ob, none⟩) b.length ca) ∧ x.cell? ⟨bb, ob, none⟩ = some (.slice au C cu)) ∧
      ((x.cell? ⟨w1.heap.size, 0, none⟩ = some (.int .i64 f) ∧ x.cell? ⟨w1.heap.size, 1, none⟩ = some (.int .i64 t)) ∧ x.cell? ⟨w1.heap.size, 2, none⟩ = some (.int .i64 n) ∧ x.cell? ⟨w1.heap.size, 3, none⟩ = some (.int .i64 0))) ∧ Below w.heap.size w x) ∧ Below (w1.heap.size + 1) (w1.alloc (.cells #[.int .i64 f, .int .i64 t, .int .i64 n, .int .i64 0] 77)) x := fun x hx => by
    have hb : Below w.heap.size w x := (HB1.out.alloc HB1.out.size _).trans (hx.mono (by have := HB1.out.size; omega))
    have hc := HX.out x hb
    exact ⟨⟨⟨⟨hc.1.1.1, hc.2⟩, ⟨⟨by rw [hx.cell (by simp)]; simp [go_sem], by rw [hx.cell (by simp)]; simp [go_sem]⟩, by rw [hx.cell (by simp)]; simp [go_sem], by rw [hx.cell (by simp)]; simp [go_sem]⟩⟩, hb⟩, hx⟩
  have HS := Lib.hid hS
  have hS0 := hS _ (Below.drew (Below.refl _ _))
  clear hS
  obtain ⟨Y, hY⟩ : ∃ Y, w1.alloc (.cells #[.int .i64 f, .int .i64 t, .int .i64 n, .int .i64 0] 77) = Y := ⟨_, rfl⟩
  rw [hY] at HS hS0 ⊢
  have hYs : Y.heap.size = w1.heap.size + 1 := by rw [← hY]; simp
  clear hY
  obtain ⟨NR, hNR⟩ : ∃ NR, w1.heap.size = NR := ⟨_, rfl⟩
  rw [hNR] at HS hS0 hYs ⊢
  refine region_T (S := fun x => ((((x.cell? ⟨Bb, 0, none⟩ = some (.slice (some ⟨bb, ob, none⟩) b.length ca) ∧ x.cell? ⟨bb, ob, none⟩ = some (.slice au C cu)) ∧ ((x.cell? ⟨NR, 0, none⟩ = some (.int .i64 f) ∧ x.cell? ⟨NR, 1, none⟩ = some (.int .i64 t)) ∧ x.cell? ⟨NR, 2, none⟩ = some (.int .i64 n) ∧ x.cell? ⟨NR, 3, none⟩ = some (.int .i64 0))) ∧ Below w.heap.size w x) ∧ Below (NR + 1) Y x)) [7, 8] (by kernel_rfl) hS0 (fun _ => ?_)
  have hx0 : Y.heap.size ≤ Y.drew.heap.size := Nat.le_refl _
  obtain ⟨W, hW⟩ : ∃ W, Y.drew = W := ⟨_, rfl⟩
  rw [hW] at hS0 hx0 ⊢
  clear hW
  refine anyT_take (i := 0) (v := ?_) rfl (by kernel_rfl) (by kernel_rfl) (by kernel_rfl) (by kernel_rfl) (fun _ _ _ h => h) (Or.inl ⟨by rfl, ?_⟩) hS0 ?_
  rotate_left
  focus ((intro wq hSw; obtain ⟨⟨⟨⟨c0, c1⟩, ⟨r0, r1⟩, r2, r3⟩, _⟩, _⟩ := hSw; go_simp); try with_reducible rfl)
  try simp only [Act.put, List.getElem_toArray, List.getElem_cons_succ, List.getElem_cons_zero, List.setIfInBounds_toArray, List.set_cons_zero, List.set_cons_succ]
  refine anyT_take (i := 1) (v := ?_) rfl (by kernel_rfl) (by kernel_rfl) (by kernel_rfl) (by kernel_rfl) (fun _ _ _ h => h) (Or.inl ⟨by rfl, ?_⟩) hS0 ?_
  rotate_left
  focus ((intro wq hSw; obtain ⟨⟨⟨⟨c0, c1⟩, ⟨r0, r1⟩, r2, r3⟩, _⟩, _⟩ := hSw; go_simp); try with_reducible rfl)
  try simp only [Act.put, List.getElem_toArray, List.getElem_cons_succ, List.getElem_cons_zero, List.setIfInBounds_toArray, List.set_cons_zero, List.set_cons_succ]
  refine anyT_take (i := 2) (v := ?_) rfl (by kernel_rfl) (by kernel_rfl) (by kernel_rfl) (by kernel_rfl) (fun _ _ _ h => h) (Or.inl ⟨by rfl, ?_⟩) hS0 ?_
  rotate_left
  focus ((intro wq hSw; obtain ⟨⟨⟨⟨c0, c1⟩, ⟨r0, r1⟩, r2, r3⟩, _⟩, _⟩ := hSw; go_simp); try with_reducible rfl)
  try simp only [Act.put, List.getElem_toArray, List.getElem_cons_succ, List.getElem_cons_zero, List.setIfInBounds_toArray, List.set_cons_zero, List.set_cons_succ]
  refine anyT_take (i := 3) (v := ?_) rfl (by kernel_rfl) (by kernel_rfl) (by kernel_rfl) (by kernel_rfl) (fun _ _ _ h => h) (Or.inl ⟨by rfl, ?_⟩) hS0 ?_
  rotate_left
  focus ((intro wq hSw; obtain ⟨⟨⟨⟨c0, c1⟩, ⟨r0, r1⟩, r2, r3⟩, _⟩, _⟩ := hSw; go_simp); try with_reducible rfl)
  try simp only [Act.put, List.getElem_toArray, List.getElem_cons_succ, List.getElem_cons_zero, List.setIfInBounds_toArray, List.set_cons_zero, List.set_cons_succ]
  refine anyT_take (i := 4) (v := ?_) rfl (by kernel_rfl) (by kernel_rfl) (by kernel_rfl) (by kernel_rfl) (fun _ _ _ h => h) (Or.inl ⟨by rfl, ?_⟩) hS0 ?_
  rotate_left
  focus ((intro wq hSw; obtain ⟨⟨⟨⟨c0, c1⟩, ⟨r0, r1⟩, r2, r3⟩, _⟩, _⟩ := hSw; go_simp); try with_reducible rfl)
  try simp only [Act.put, List.getElem_toArray, List.getElem_cons_succ, List.getElem_cons_zero, List.setIfInBounds_toArray, List.set_cons_zero, List.set_cons_succ]
  refine anyT_take (i := 5) (v := ?_) rfl (by kernel_rfl) (by kernel_rfl) (by kernel_rfl) (by kernel_rfl) (fun _ _ _ h => h) (Or.inl ⟨by rfl, ?_⟩) hS0 ?_
  rotate_left
  focus ((intro wq hSw; obtain ⟨⟨⟨⟨c0, c1⟩, ⟨r0, r1⟩, r2, r3⟩, _⟩, _⟩ := hSw; go_simp); try with_reducible rfl)
  try simp only [Act.put, List.getElem_toArray, List.getElem_cons_succ, List.getElem_cons_zero, List.setIfInBounds_toArray, List.set_cons_zero, List.set_cons_succ]
  refine anyT_one (i := 6) (by kernel_rfl) rfl (fun K hK => ?_)
  have h57 := gainsOf_any f t n 0 C W
  unfold rampV at h57
  go_simp
  refine h57.mono ?_
  rintro e wk ⟨rfl, rfl⟩
  have hbk : Below (NR + 1) Y ((W.alloc (.cells #[.int .i64 f, .int .i64 t, .int .i64 n, .int .i64 0] 77)).alloc (.cells #[.int .i64 C] 3)) := (hS0.2.alloc (by omega) _).alloc (by simp; omega) _
  have hS1 := HS.out _ hbk
  refine hK.out _ _ (fun _ => hS1) ?_
  clear hK K h57
  try simp only [Act.put, List.getElem_toArray, List.getElem_cons_succ, List.getElem_cons_zero, List.setIfInBounds_toArray, List.set_cons_zero, List.set_cons_succ]
  refine anyT_one (i := 7) (by kernel_rfl) rfl (fun K hK => ?_)
  have h81 := H81.out W.heap.size (W.heap.size + 1) _ hS1.1.2 ⟨by simp [go_sem], by simp [go_sem], by simp [go_sem], by simp [go_sem]⟩ (by simp [go_sem])
  have hfin := hS1.1.2
  have hsz : w.heap.size ≤ ((W.alloc (.cells #[.int .i64 f, .int .i64 t, .int .i64 n, .int .i64 0] 77)).alloc (.cells #[.int .i64 C] 3)).heap.size := hfin.size
  go_simp
  refine h81.mono ?_
  rintro e wk ⟨u1, rfl, hm, hb⟩
  have HM := Lib.hid (show MatNew w.heap.size wk (allM b (rampG f t n 0)) u1 from fun w2 h2 => hm w2 fun k hk hlt => h2 k (Nat.le_trans hsz hk) hlt)
  have HBF := Lib.hid (Below.then hfin (Nat.le_refl _) hb)
  clear hm hb hfin hS1 hbk hS0 h81 hsz
  refine hK.out _ _ (fun h => by cases h) ?_
  clear hK K
  try simp only [Act.put, List.getElem_toArray, List.getElem_cons_succ, List.getElem_cons_zero, List.setIfInBounds_toArray, List.set_cons_zero, List.set_cons_succ]
  refine anyT_one (i := 8) (by kernel_rfl) rfl (fun K hK => ?_)
  go_simp
  refine hK.out _ _ (fun h => by cases h) ?_
  clear hK K
  refine anyT_done (by kernel_rfl) ?_ _
  go_wp2_with fail
  go_ret
  exact ⟨_, rfl, HM.out, HBF.out⟩
end Go.Proofs.Ythfagnbecocgdaa
