/- Duck: the program's. -/
import Derived.Test.YthfagnbecocgdaaQE
import Derived.Test.YthfagnbecocgdaaRI
namespace Go.Proofs.Ythfagnbecocgdaa
open Go.RowKit Go.Shelf Go.Deep

def boundB (n : Int) : Bool := decide (0 ≤ n) && decide (n ≤ 8388607)
theorem boundB_t {n : Int} (h : boundB n = true) : 0 ≤ n ∧ n ≤ 8388607 := by simpa [boundB] using h
theorem boundB_f {n : Int} (h : boundB n = false) : n < 0 ∨ 8388607 < n := by simp [boundB] at h; omega

set_option maxHeartbeats 2000000 in
set_option maxRecDepth 100000 in
theorem duck1_yes (b y : List (List Int)) (v vy : Value) (Bb Bv Bd Bg : Nat) (bd g : Int) (w : World) (hM : MatIn w b v) (hMy : MatIn w y vy) (hv : validB b = true) (hvy : validB y = true) (hbd : boundB bd = true) (hg : gainB g = true) (hCD : cols b = cols y)
    (k0 : w.cell? ⟨Bb, 0, none⟩ = some v) (k1 : w.cell? ⟨Bv, 0, none⟩ = some vy) (k2 : w.cell? ⟨Bd, 0, none⟩ = some (.int .i64 bd)) (k3 : w.cell? ⟨Bg, 0, none⟩ = some (.int .i64 g)) :
    Calls Try.prog 101 #[at0 Bb, at0 Bv, at0 Bd, at0 Bg] w (NewRet w (allM b (duckG y bd g))) := by
  have h55 := blocks_yes (l := [b, y]) (show allV [b, y] = true by simp [allV, hv, hvy]) _ _ (blk_new2 w b y v vy hM hMy)
  obtain ⟨hr1, hr8, hc, hrow⟩ := validB_parts hv
  have hcab := cell_abs hv
  obtain ⟨hy1, hy8, hcy, hrowy⟩ := validB_parts hvy
  have hcaby := cell_abs hvy
  obtain ⟨a, ca, rfl, hin, hal, _⟩ := id hM
  obtain ⟨bb, ob, u, rfl, hcu, hu⟩ := hin 0 (by omega)
  obtain ⟨au, cu, rfl, _, _, _⟩ := hu
  change w.cell? _ = some (Value.slice au (cols b) cu) at hcu
  simp only [Nat.add_zero] at hcu
  obtain ⟨ay, cy, rfl, hiny, _, _⟩ := id hMy
  obtain ⟨b2, o2, u2, rfl, hcu2, hu2⟩ := hiny 0 (by omega)
  obtain ⟨a2, c2, rfl, _, _, _⟩ := hu2
  change w.cell? _ = some (Value.slice a2 (cols y) c2) at hcu2
  simp only [Nat.add_zero] at hcu2
  have h61 := gains_yes (l := [g]) (show allG [g] = true by simp [allG, hg]) _ _ (row_new (w.alloc (.cells #[.slice (some ⟨bb, ob, none⟩) b.length ca, .slice (some ⟨b2, o2, none⟩) y.length cy] 34)) g (by have := gainB_t hg; unfold I64; omega))
  rw [World.size_alloc] at h61
  obtain ⟨p1, p2⟩ := boundB_t hbd
  have q1 : decide (0 ≤ bd) = true := decide_eq_true p1
  have q2 : decide (bd ≤ 8388607) = true := decide_eq_true p2
  have HM7 := Lib.hid (must_yes 7)
  have HMU : Hid (∀ x, Calls Try.prog 50 #[.bool true, .int .i64 11] x fun e w' => e = .returned (.tuple #[]) ∧ w' = x) := Lib.hid fun x => (must_yes 11 x).mono fun e w' ⟨h1, h2⟩ => ⟨h1, h2.symm⟩
  obtain ⟨C, hC⟩ : ∃ C, cols b = C := ⟨_, rfl⟩
  rw [hC] at hcu hc hrow hCD
  rw [← hCD] at hcu2 hrowy
  have HX : Hid (∀ x, Below w.heap.size w x → (((((x.cell? ⟨Bb, 0, none⟩ = some (.slice (some ⟨bb, ob, none⟩) b.length ca) ∧ x.cell? ⟨Bv, 0, none⟩ = some (.slice (some ⟨b2, o2, none⟩) y.length cy)) ∧ x.cell? ⟨Bd, 0, none⟩ = some (.int .i64 bd)) ∧ x.cell? ⟨Bg, 0, none⟩ = some (.int .i64 g)) ∧ x.cell? ⟨bb, ob, none⟩ = some (.slice au C cu) ∧ x.cell? ⟨b2, o2, none⟩ = some (.slice a2 C c2)) ∧ Below w.heap.size w x)) :=
    Lib.hid fun x hx => ⟨⟨⟨⟨⟨(Same.of_below hx).cell k0, (Same.of_below hx).cell k1⟩, (Same.of_below hx).cell k2⟩, (Same.of_below hx).cell k3⟩, (Same.of_below hx).cell hcu, (Same.of_below hx).cell hcu2⟩, hx⟩
  have H81 : Hid (∀ (A B K : Nat) (x : World), Below w.heap.size w x → x.cell? ⟨A, 0, none⟩ = some (.slice (some ⟨b2, o2, none⟩) y.length cy) → x.cell? ⟨B, 0, none⟩ = some (.int .i64 bd) → x.cell? ⟨K, 0, none⟩ = some (.int .i64 g) → Calls Try.prog 81 #[.slice (some ⟨bb, ob, none⟩) b.length ca, .func (.func 116) #[] #[at0 A, at0 B, at0 K]] x (NewRet x (allM b (duckG y bd g)))) :=
    Lib.hid fun A B K x hx hA hB hK => allScaled_any b _ 116 _ _ C x (hM.mono (Same.of_below hx)) hr8 hrow hc hcab (isGains_duck hc (gainB_t hg) (hMy.mono (Same.of_below hx)) (by omega) hrowy (fun j f => by have := hcaby j f; omega) hA hB hK)
  have H102 := Lib.hid (fun (x : World) => ducked_any (.slice (some ⟨b2, o2, none⟩) y.length cy) rfl bd g x)
  have hB0 : Below w.heap.size w (w.alloc (.cells #[.slice (some ⟨bb, ob, none⟩) b.length ca, .slice (some ⟨b2, o2, none⟩) y.length cy] 34)) := (Below.refl _ w).alloc (Nat.le_refl _) _
  have hB1 : Below w.heap.size w ((w.alloc (.cells #[.slice (some ⟨bb, ob, none⟩) b.length ca, .slice (some ⟨b2, o2, none⟩) y.length cy] 34)).alloc (.cells #[.int .i64 g] 3)) := hB0.alloc (by simp) _
  obtain ⟨⟨⟨⟨_, _⟩, m2⟩, m3⟩, _, _⟩ := (HX.out _ hB0).1
  obtain ⟨⟨⟨⟨n0, n1⟩, _⟩, _⟩, n4, n5⟩ := (HX.out _ hB1).1
  have HB1 := Lib.hid hB1
  have hposI : (0 : Int) < (b.length : Int) := by omega
  have hposN : 0 < b.length := by omega
  have hpoyI : (0 : Int) < (y.length : Int) := by omega
  have hpoyN : 0 < y.length := by omega
  clear hM hMy hv hvy hg hin hiny hcab hcaby hrow hrowy hC hB0 hB1 k2 k3 hcu hcu2 hbd p1 p2 hCD
  go_enter Try.func101, Try.ntmps101
  go_upto_region 4 with (first
    | (go_at_call 55; (with_reducible refine h55.mono ?_); rintro e w1 ⟨rfl, rfl⟩)
    | (go_at_call 50; (with_reducible refine (HM7.out _).mono ?_); rintro e w1 ⟨rfl, rfl⟩)
    | (go_at_call 61; (with_reducible refine h61.mono ?_); rintro e w1 ⟨rfl, rfl⟩))
  go_quiet ((go_at_call 50; with_reducible exact Calls.quiet_of_same (HMU.out _)))
  go_upto_region 5 with fail
  clear h55 h61 k0 k1 m2 m3 q1 q2 n0 n1 n4 n5
  generalize hwx : (((w.alloc (.cells #[.slice (some ⟨bb, ob, none⟩) b.length ca, .slice (some ⟨b2, o2, none⟩) y.length cy] 34)).alloc (.cells #[.int .i64 g] 3)).drewN _) = wx
  have hb0 : Below w.heap.size w wx := by rw [← hwx]; exact below_drewN HB1.out _
  clear hwx HB1
  have hS0 := HX.out _ hb0.drew
  refine region_T (S := fun x => (((((x.cell? ⟨Bb, 0, none⟩ = some (.slice (some ⟨bb, ob, none⟩) b.length ca) ∧ x.cell? ⟨Bv, 0, none⟩ = some (.slice (some ⟨b2, o2, none⟩) y.length cy)) ∧ x.cell? ⟨Bd, 0, none⟩ = some (.int .i64 bd)) ∧ x.cell? ⟨Bg, 0, none⟩ = some (.int .i64 g)) ∧ x.cell? ⟨bb, ob, none⟩ = some (.slice au C cu) ∧ x.cell? ⟨b2, o2, none⟩ = some (.slice a2 C c2)) ∧ Below w.heap.size w x)) [5, 6] (by kernel_rfl) hS0 (fun _ => ?_)
  obtain ⟨W, hW⟩ : ∃ W, wx.drew = W := ⟨_, rfl⟩
  rw [hW] at hS0 ⊢
  clear hW hb0
  refine anyT_take (i := 0) (v := ?_) rfl (by kernel_rfl) (by kernel_rfl) (by kernel_rfl) (by kernel_rfl) (fun _ _ _ h => h) (Or.inl ⟨by rfl, ?_⟩) hS0 ?_
  rotate_left
  focus ((intro wq hSw; obtain ⟨⟨⟨⟨⟨c0, c1⟩, c2⟩, c3⟩, c4, c5⟩, _⟩ := hSw; go_simp); try with_reducible rfl)
  try simp only [Act.put, List.getElem_toArray, List.getElem_cons_succ, List.getElem_cons_zero, List.setIfInBounds_toArray, List.set_cons_zero, List.set_cons_succ]
  refine anyT_take (i := 1) (v := ?_) rfl (by kernel_rfl) (by kernel_rfl) (by kernel_rfl) (by kernel_rfl) (fun _ _ _ h => h) (Or.inl ⟨by rfl, ?_⟩) hS0 ?_
  rotate_left
  focus ((intro wq hSw; obtain ⟨⟨⟨⟨⟨c0, c1⟩, c2⟩, c3⟩, c4, c5⟩, _⟩ := hSw; go_simp); try with_reducible rfl)
  try simp only [Act.put, List.getElem_toArray, List.getElem_cons_succ, List.getElem_cons_zero, List.setIfInBounds_toArray, List.set_cons_zero, List.set_cons_succ]
  refine anyT_take (i := 2) (v := ?_) rfl (by kernel_rfl) (by kernel_rfl) (by kernel_rfl) (by kernel_rfl) (fun _ _ _ h => h) (Or.inl ⟨by rfl, ?_⟩) hS0 ?_
  rotate_left
  focus ((intro wq hSw; obtain ⟨⟨⟨⟨⟨c0, c1⟩, c2⟩, c3⟩, c4, c5⟩, _⟩ := hSw; go_simp); try with_reducible rfl)
  try simp only [Act.put, List.getElem_toArray, List.getElem_cons_succ, List.getElem_cons_zero, List.setIfInBounds_toArray, List.set_cons_zero, List.set_cons_succ]
  refine anyT_take (i := 3) (v := ?_) rfl (by kernel_rfl) (by kernel_rfl) (by kernel_rfl) (by kernel_rfl) (fun _ _ _ h => h) (Or.inl ⟨by rfl, ?_⟩) hS0 ?_
  rotate_left
  focus ((intro wq hSw; obtain ⟨⟨⟨⟨⟨c0, c1⟩, c2⟩, c3⟩, c4, c5⟩, _⟩ := hSw; go_simp); try with_reducible rfl)
  try simp only [Act.put, List.getElem_toArray, List.getElem_cons_succ, List.getElem_cons_zero, List.setIfInBounds_toArray, List.set_cons_zero, List.set_cons_succ]
  refine anyT_one (i := 4) (by kernel_rfl) rfl (fun K hK => ?_)
  have h102 := H102.out W
  go_simp
  refine h102.mono ?_
  rintro e wk ⟨rfl, rfl⟩
  have hbk : Below w.heap.size w (((W.alloc (.cells #[.slice (some ⟨b2, o2, none⟩) y.length cy] 34)).alloc (.cells #[.int .i64 bd] 3)).alloc (.cells #[.int .i64 g] 3)) := ((hS0.2.alloc hS0.2.size _).alloc (by have := hS0.2.size; simp; omega) _).alloc (by have := hS0.2.size; simp; omega) _
  have hS1 := HX.out _ hbk
  refine hK.out _ _ (fun _ => hS1) ?_
  clear hK K h102
  try simp only [Act.put, List.getElem_toArray, List.getElem_cons_succ, List.getElem_cons_zero, List.setIfInBounds_toArray, List.set_cons_zero, List.set_cons_succ]
  refine anyT_one (i := 5) (by kernel_rfl) rfl (fun K hK => ?_)
  have h81 := H81.out W.heap.size (W.heap.size + 1) (W.heap.size + 1 + 1) _ hbk (by simp [go_sem]) (by simp [go_sem]) (by simp [go_sem])
  have hsz : w.heap.size ≤ (((W.alloc (.cells #[.slice (some ⟨b2, o2, none⟩) y.length cy] 34)).alloc (.cells #[.int .i64 bd] 3)).alloc (.cells #[.int .i64 g] 3)).heap.size := hbk.size
  go_simp
  refine h81.mono ?_
  rintro e wk ⟨u1, rfl, hm, hb⟩
  have HM := Lib.hid (show MatNew w.heap.size wk (allM b (duckG y bd g)) u1 from fun w2 h2 => hm w2 fun k hk hlt => h2 k (Nat.le_trans hsz hk) hlt)
  have HBF := Lib.hid (Below.then hbk (Nat.le_refl _) hb)
  clear hm hb hS1 hbk h81 hsz hS0
  refine hK.out _ _ (fun h => by cases h) ?_
  clear hK K
  try simp only [Act.put, List.getElem_toArray, List.getElem_cons_succ, List.getElem_cons_zero, List.setIfInBounds_toArray, List.set_cons_zero, List.set_cons_succ]
  refine anyT_one (i := 6) (by kernel_rfl) rfl (fun K hK => ?_)
  go_simp
  refine hK.out _ _ (fun h => by cases h) ?_
  clear hK K
  refine anyT_done (by kernel_rfl) ?_ _
  go_wp2_with fail
  go_ret
  exact ⟨_, rfl, HM.out, HBF.out⟩

set_option maxRecDepth 100000 in
theorem duck1_bad (b y : List (List Int)) (v vy : Value) (Bb Bv Bd Bg : Nat) (w : World) (hM : MatIn w b v) (hMy : MatIn w y vy) (hv : allV [b, y] = false) (k0 : w.cell? ⟨Bb, 0, none⟩ = some v) (k1 : w.cell? ⟨Bv, 0, none⟩ = some vy) : Calls Try.prog 101 #[at0 Bb, at0 Bv, at0 Bd, at0 Bg] w (LeavesX 1 w) := by
  have h55 := blocks_no hv _ _ (blk_new2 w b y v vy hM hMy)
  obtain ⟨a, ca, rfl, _, _, _⟩ := hM
  obtain ⟨ay, cy, rfl, _, _, _⟩ := hMy
  clear hv
  go_enter Try.func101, Try.ntmps101
  go_wp2_with (go_at_call 55; (with_reducible refine h55.mono ?_); rintro e w1 ⟨rfl, rfl⟩)
  exact ⟨rfl, rfl, (Below.refl _ w).alloc (Nat.le_refl _) _⟩
set_option maxRecDepth 100000 in
theorem duck1_bound (b y : List (List Int)) (v vy : Value) (Bb Bv Bd Bg : Nat) (bd : Int) (w : World) (hM : MatIn w b v) (hMy : MatIn w y vy) (hv : allV [b, y] = true) (hbd : boundB bd = false) (k0 : w.cell? ⟨Bb, 0, none⟩ = some v) (k1 : w.cell? ⟨Bv, 0, none⟩ = some vy) (k2 : w.cell? ⟨Bd, 0, none⟩ = some (.int .i64 bd)) : Calls Try.prog 101 #[at0 Bb, at0 Bv, at0 Bd, at0 Bg] w (LeavesX 7 w) := by
  have h55 := blocks_yes hv _ _ (blk_new2 w b y v vy hM hMy)
  obtain ⟨a, ca, rfl, _, _, _⟩ := hM
  obtain ⟨ay, cy, rfl, _, _, _⟩ := hMy
  have c2 := (Same.alloc w (.cells #[.slice a b.length ca, .slice ay y.length cy] 34)).cell k2
  have HM7 := Lib.hid (must_no 7)
  have hb0 : Below w.heap.size w (w.alloc (.cells #[.slice a b.length ca, .slice ay y.length cy] 34)) := (Below.refl _ w).alloc (Nat.le_refl _) _
  have HB0 := Lib.hid hb0
  clear hv hb0
  by_cases h0 : 0 ≤ bd
  · have h1 : ¬ bd ≤ 8388607 := by have := boundB_f hbd; omega
    have q1 : decide (0 ≤ bd) = true := decide_eq_true h0
    have q2 : decide (bd ≤ 8388607) = false := decide_eq_false h1
    clear hbd h0 h1
    go_enter Try.func101, Try.ntmps101
    go_wp2_with (first
      | (go_at_call 55; (with_reducible refine h55.mono ?_); rintro e w1 ⟨rfl, rfl⟩)
      | (go_at_call 50; (with_reducible refine (HM7.out _).mono ?_); rintro e w1 ⟨rfl, rfl⟩))
    exact ⟨rfl, rfl, HB0.out⟩
  · have q1 : decide (0 ≤ bd) = false := decide_eq_false h0
    clear hbd h0
    go_enter Try.func101, Try.ntmps101
    go_wp2_with (first
      | (go_at_call 55; (with_reducible refine h55.mono ?_); rintro e w1 ⟨rfl, rfl⟩)
      | (go_at_call 50; (with_reducible refine (HM7.out _).mono ?_); rintro e w1 ⟨rfl, rfl⟩))
    exact ⟨rfl, rfl, HB0.out⟩
set_option maxRecDepth 100000 in
theorem duck1_gain (b y : List (List Int)) (v vy : Value) (Bb Bv Bd Bg : Nat) (bd g : Int) (hI : I64 g) (w : World) (hM : MatIn w b v) (hMy : MatIn w y vy) (hv : allV [b, y] = true) (hbd : boundB bd = true) (hg : gainB g = false) (k0 : w.cell? ⟨Bb, 0, none⟩ = some v) (k1 : w.cell? ⟨Bv, 0, none⟩ = some vy) (k2 : w.cell? ⟨Bd, 0, none⟩ = some (.int .i64 bd)) (k3 : w.cell? ⟨Bg, 0, none⟩ = some (.int .i64 g)) : Calls Try.prog 101 #[at0 Bb, at0 Bv, at0 Bd, at0 Bg] w (LeavesX 7 w) := by
  have h55 := blocks_yes hv _ _ (blk_new2 w b y v vy hM hMy)
  obtain ⟨a, ca, rfl, _, _, _⟩ := hM
  obtain ⟨ay, cy, rfl, _, _, _⟩ := hMy
  have h61 := gains_no (l := [g]) (show allG [g] = false by simp [allG, hg]) _ _ (row_new (w.alloc (.cells #[.slice a b.length ca, .slice ay y.length cy] 34)) g hI)
  rw [World.size_alloc] at h61
  have c2 := (Same.alloc w (.cells #[.slice a b.length ca, .slice ay y.length cy] 34)).cell k2
  have c3 := (Same.alloc w (.cells #[.slice a b.length ca, .slice ay y.length cy] 34)).cell k3
  have HM7 := Lib.hid (must_yes 7)
  obtain ⟨p1, p2⟩ := boundB_t hbd
  have q1 : decide (0 ≤ bd) = true := decide_eq_true p1
  have q2 : decide (bd ≤ 8388607) = true := decide_eq_true p2
  have hb0 : Below w.heap.size w ((w.alloc (.cells #[.slice a b.length ca, .slice ay y.length cy] 34)).alloc (.cells #[.int .i64 g] 3)) := ((Below.refl _ w).alloc (Nat.le_refl _) _).alloc (by simp) _
  have HB0 := Lib.hid hb0
  clear hv hb0 hbd hg hI p1 p2
  go_enter Try.func101, Try.ntmps101
  go_wp2_with (first
    | (go_at_call 55; (with_reducible refine h55.mono ?_); rintro e w1 ⟨rfl, rfl⟩)
    | (go_at_call 50; (with_reducible refine (HM7.out _).mono ?_); rintro e w1 ⟨rfl, rfl⟩)
    | (go_at_call 61; (with_reducible refine h61.mono ?_); rintro e w1 ⟨rfl, rfl⟩))
  exact ⟨rfl, rfl, HB0.out⟩
set_option maxHeartbeats 1000000 in
set_option maxRecDepth 100000 in
theorem duck1_size (b y : List (List Int)) (v vy : Value) (Bb Bv Bd Bg : Nat) (bd g : Int) (w : World) (hM : MatIn w b v) (hMy : MatIn w y vy) (hv : validB b = true) (hvy : validB y = true) (hbd : boundB bd = true) (hg : gainB g = true) (hCD : ¬ cols b = cols y)
    (k0 : w.cell? ⟨Bb, 0, none⟩ = some v) (k1 : w.cell? ⟨Bv, 0, none⟩ = some vy) (k2 : w.cell? ⟨Bd, 0, none⟩ = some (.int .i64 bd)) (k3 : w.cell? ⟨Bg, 0, none⟩ = some (.int .i64 g)) :
    Calls Try.prog 101 #[at0 Bb, at0 Bv, at0 Bd, at0 Bg] w (LeavesX 11 w) := by
  have h55 := blocks_yes (l := [b, y]) (show allV [b, y] = true by simp [allV, hv, hvy]) _ _ (blk_new2 w b y v vy hM hMy)
  obtain ⟨hr1, hr8, hc, hrow⟩ := validB_parts hv
  have hcab := cell_abs hv
  obtain ⟨hy1, hy8, hcy, hrowy⟩ := validB_parts hvy
  have hcaby := cell_abs hvy
  obtain ⟨a, ca, rfl, hin, hal, _⟩ := id hM
  obtain ⟨bb, ob, u, rfl, hcu, hu⟩ := hin 0 (by omega)
  obtain ⟨au, cu, rfl, _, _, _⟩ := hu
  change w.cell? _ = some (Value.slice au (cols b) cu) at hcu
  simp only [Nat.add_zero] at hcu
  obtain ⟨ay, cy, rfl, hiny, _, _⟩ := id hMy
  obtain ⟨b2, o2, u2, rfl, hcu2, hu2⟩ := hiny 0 (by omega)
  obtain ⟨a2, c2, rfl, _, _, _⟩ := hu2
  change w.cell? _ = some (Value.slice a2 (cols y) c2) at hcu2
  simp only [Nat.add_zero] at hcu2
  have h61 := gains_yes (l := [g]) (show allG [g] = true by simp [allG, hg]) _ _ (row_new (w.alloc (.cells #[.slice (some ⟨bb, ob, none⟩) b.length ca, .slice (some ⟨b2, o2, none⟩) y.length cy] 34)) g (by have := gainB_t hg; unfold I64; omega))
  rw [World.size_alloc] at h61
  obtain ⟨p1, p2⟩ := boundB_t hbd
  have q1 : decide (0 ≤ bd) = true := decide_eq_true p1
  have q2 : decide (bd ≤ 8388607) = true := decide_eq_true p2
  have HM7 := Lib.hid (must_yes 7)
  have HMU := Lib.hid (must_no 11)
  obtain ⟨C, hC⟩ : ∃ C, cols b = C := ⟨_, rfl⟩
  obtain ⟨D, hD⟩ : ∃ D, cols y = D := ⟨_, rfl⟩
  rw [hC, hD] at hCD
  rw [hC] at hcu
  rw [hD] at hcu2
  have HX : Hid (∀ x, Below w.heap.size w x → (((((x.cell? ⟨Bb, 0, none⟩ = some (.slice (some ⟨bb, ob, none⟩) b.length ca) ∧ x.cell? ⟨Bv, 0, none⟩ = some (.slice (some ⟨b2, o2, none⟩) y.length cy)) ∧ x.cell? ⟨Bd, 0, none⟩ = some (.int .i64 bd)) ∧ x.cell? ⟨Bg, 0, none⟩ = some (.int .i64 g)) ∧ x.cell? ⟨bb, ob, none⟩ = some (.slice au C cu) ∧ x.cell? ⟨b2, o2, none⟩ = some (.slice a2 D c2)) ∧ Below w.heap.size w x)) :=
    Lib.hid fun x hx => ⟨⟨⟨⟨⟨(Same.of_below hx).cell k0, (Same.of_below hx).cell k1⟩, (Same.of_below hx).cell k2⟩, (Same.of_below hx).cell k3⟩, (Same.of_below hx).cell hcu, (Same.of_below hx).cell hcu2⟩, hx⟩
  have hB0 : Below w.heap.size w (w.alloc (.cells #[.slice (some ⟨bb, ob, none⟩) b.length ca, .slice (some ⟨b2, o2, none⟩) y.length cy] 34)) := (Below.refl _ w).alloc (Nat.le_refl _) _
  have hB1 : Below w.heap.size w ((w.alloc (.cells #[.slice (some ⟨bb, ob, none⟩) b.length ca, .slice (some ⟨b2, o2, none⟩) y.length cy] 34)).alloc (.cells #[.int .i64 g] 3)) := hB0.alloc (by simp) _
  obtain ⟨⟨⟨⟨_, _⟩, m2⟩, m3⟩, _, _⟩ := (HX.out _ hB0).1
  obtain ⟨⟨⟨⟨n0, n1⟩, _⟩, _⟩, n4, n5⟩ := (HX.out _ hB1).1
  have HB1 := Lib.hid hB1
  have hposI : (0 : Int) < (b.length : Int) := by omega
  have hposN : 0 < b.length := by omega
  have hpoyI : (0 : Int) < (y.length : Int) := by omega
  have hpoyN : 0 < y.length := by omega
  have t1 : ((C : Int) == (D : Int)) = false := by simp; omega
  have t3 : decide (C = D) = false := decide_eq_false hCD
  have t4 : (C == D) = false := by simpa using hCD
  clear hM hMy hv hvy hg hin hiny hcab hcaby hrow hrowy hC hB0 hB1 k2 k3 hcu hcu2 hbd p1 p2 hCD
  go_enter Try.func101, Try.ntmps101
  go_upto_region 4 with (first
    | (go_at_call 55; (with_reducible refine h55.mono ?_); rintro e w1 ⟨rfl, rfl⟩)
    | (go_at_call 50; (with_reducible refine (HM7.out _).mono ?_); rintro e w1 ⟨rfl, rfl⟩)
    | (go_at_call 61; (with_reducible refine h61.mono ?_); rintro e w1 ⟨rfl, rfl⟩))
  clear h55 h61
  obtain ⟨Y, hY⟩ : ∃ Y, (w.alloc (.cells #[.slice (some ⟨bb, ob, none⟩) b.length ca, .slice (some ⟨b2, o2, none⟩) y.length cy] 34)).alloc (.cells #[.int .i64 g] 3) = Y := ⟨_, rfl⟩
  rw [hY] at HB1 n0 n1 n4 n5 ⊢
  clear hY m2 m3
  go_still_tail 9, (by kernel_rfl)
  change wpList _ _ _ _ _ Y.drew
  go_wp2_with (go_at_call 50; (with_reducible refine (HMU.out _).mono ?_); rintro e w1 ⟨rfl, rfl⟩)
  exact ⟨rfl, rfl, HB1.out.drew⟩
end Go.Proofs.Ythfagnbecocgdaa
