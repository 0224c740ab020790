/- A dither's Encode, where it answers. -/
import Derived.Test.YtegomicpolnpoaaXB
namespace Go.Proofs.Ytegomicpolnpoaa
open Go.RowKit Go.Deep Go.Shelf

theorem find_fst : ∀ {l : List ((Nat × Nat) × Int)}, (l.map Prod.fst).Nodup → ∀ y ∈ l, l.find? (fun z => z.1 == y.1) = some y
  | [], _, y, h => by cases h
  | x :: l, hn, y, h => by
    rw [List.map_cons, List.nodup_cons] at hn
    rcases List.mem_cons.1 h with rfl | h
    · simp
    · have hne : x.1 ≠ y.1 := fun e => hn.1 (e ▸ List.mem_map.2 ⟨y, h, rfl⟩)
      rw [List.find?_cons_of_neg (by simpa using hne)]
      exact find_fst hn.2 y h
/-- The levels that a dither gives a block, spot by spot; its bytes; the state behind it. -/
def dLV (e : Nat) (sh : Bool) (m : List (List Int)) (s : Int × List Int) (x : Nat × Nat) : Int :=
  (((lvTo (dLv e) (dNx e sh) m s (spTo m.length (cols m))).find? (fun z => z.1 == x)).getD (x, 0)).2
theorem dLV_at (e : Nat) (sh : Bool) (m : List (List Int)) (s : Int × List Int) : ∀ y ∈ lvTo (dLv e) (dNx e sh) m s (spTo m.length (cols m)), y.2 = dLV e sh m s y.1 := fun y hy => by
  unfold dLV
  rw [find_fst (by rw [lvTo_fst]; exact spTo_nodup _ _) y hy]
  rfl
def dBytes (e : Nat) (sh p : Bool) (m : List (List Int)) (s : Int × List Int) : ByteArray := laidL e p m.length (cols m) (dLV e sh m s) (cols m * m.length)
def dEnd (e : Nat) (sh : Bool) (m : List (List Int)) (s : Int × List Int) : Int × List Int := stTo (dNx e sh) m s (spTo m.length (cols m))

set_option maxHeartbeats 2000000 in
set_option maxRecDepth 100000 in
theorem denc1_yes {e : Nat} (h1 : 1 ≤ e) (h4 : e ≤ 4) (D E n0 Bd : Nat) (sh p : Bool) (s : Int × List Int) (m : List (List Int)) (v : Value) (Bq Bb Bp : Nat) (w : World) (hS : DS D E m.length e sh s w)
    (hM : ∀ X, Below n0 w X → MatIn X m v) (hv : validB m = true) (hD : n0 ≤ D ∧ D < Bd) (hE : n0 ≤ E ∧ E < Bd) (hBd : Bd ≤ w.heap.size)
    (kq : w.cell? ⟨Bq, 0, none⟩ = some (.pointer (some ⟨D, 0, none⟩))) (kb : w.cell? ⟨Bb, 0, none⟩ = some v) (kp : w.cell? ⟨Bp, 0, none⟩ = some (.bool p)) :
    Calls Try.prog 91 #[at0 Bq, at0 Bb, at0 Bp] w fun y w' => ∃ u, y = .returned u ∧ (u = .string (dBytes e sh p m s) ∧ DS D E m.length e sh (dEnd e sh m s) w') ∧ KpB n0 Bd w w' := by
  have h68 := validBlock_any m v w (hM w (Below.refl _ _))
  rw [hv] at h68
  have hmu1 := must_yes 1 w
  have hmu := fun X => must_yes 11 X
  obtain ⟨hr1, hr8, hc4, hc⟩ := validB_parts hv
  have hok := validB_smp hv
  obtain ⟨a, ca, hva, _, _, _⟩ := id (hM w (Below.refl _ _))
  have c1 := hS.top.cell (i := 1) (by decide)
  have c3 := hS.top.cell (i := 3) (by decide)
  rw [show dF e sh E m.length s.1 1 = cdv e from rfl] at c1
  rw [show dF e sh E m.length s.1 3 = .slice (some ⟨E, 0, none⟩) m.length m.length from rfl] at c3
  unfold cdv at c1
  have hrnd := fun (X : World) (hX : X.rowIs D 107 4 (dF e sh E m.length s.1)) => rounding_any h1 h4 D E m.length sh s.1 X hX
  have hwr : ∀ (X : World) (P2 P3 : Nat), Below w.heap.size w X → w.heap.size ≤ P2 → w.heap.size ≤ P3 → X.cell? ⟨P2, 0, none⟩ = some (.pointer (some ⟨D, 0, none⟩)) → X.cell? ⟨P3, 0, none⟩ = some (.int .i64 (stepN e)) →
      Calls Try.prog 69 #[.iface (cdT e) (cdX e), .bool p, v, .func (.func 118) #[] #[at0 P2, at0 P3]] X fun y w' => y = .returned (.string (dBytes e sh p m s)) ∧ DS D E m.length e sh (dEnd e sh m s) w' ∧ KpB n0 Bd w w' := fun X P2 P3 hX q2 q3 k2 k3 => by
    have hSX : DS D E m.length e sh s X := hS.keep (hX.block D (by omega)) (hX.block E (by omega))
    have l2 := cell_lt k2
    have l3 := cell_lt k3
    simp only at l2 l3
    refine (written_any (σ := Int × List Int) h1 (show e ≤ 8 by omega) p m v (cols m) n0 Bd 118 #[at0 P2, at0 P3] _ (dLv e) (dNx e sh) s X (fun Z hZ => hM Z ((hX.mono (by omega)).trans hZ)) hr1 hr8 hc hc4 hok (by omega) (by have := hX.size; omega)
      (dRnds h1 h4 D E m.length P2 P3 n0 Bd sh X hD hE (by have := hX.size; omega) ⟨by omega, l2⟩ ⟨by omega, l3⟩ hr8) ⟨hSX, k2, k3⟩ (dLV e sh m s) (dLV_at e sh m s)).mono ?_
    rintro y w' ⟨rfl, hst, hk⟩
    exact ⟨rfl, hst.1, (KpB.of_below (by omega) hX).trans hk⟩
  have HWR := Lib.hid hwr
  have HRND := Lib.hid hrnd
  have HMU := Lib.hid hmu
  have HTOP := Lib.hid hS.top
  rw [hva] at kb h68
  have HVA := Lib.hid hva
  obtain ⟨T, hT⟩ : ∃ T, T = cdT e := ⟨_, rfl⟩
  obtain ⟨Y, hY⟩ : ∃ Y, Y = cdX e := ⟨_, rfl⟩
  rw [← hT, ← hY] at c1 HWR
  have d1 : ((m.length : Int) == (m.length : Int)) = true := by simp
  clear hwr hrnd hmu hS hM hv hc hok hva hT hY
  go_enter Try.func91, Try.ntmps91
  go_wp2_with (first
    | (go_at_call 68; (with_reducible refine h68.mono ?_); rintro y w1 ⟨rfl, rfl⟩)
    | (go_at_call 53; (with_reducible refine hmu1.mono ?_); rintro y w1 ⟨rfl, rfl⟩))
  clear h68 hmu1
  refine region_T (S := fun wx => wx = w.drew) [] (by kernel_rfl) rfl (fun _ => ?_)
  refine anyT_take (i := 0) (v := ?_) rfl (by kernel_rfl) (by kernel_rfl) (by kernel_rfl) (by kernel_rfl) (fun _ _ _ h => h) (Or.inl ⟨by rfl, ?_⟩) (rfl) ?_
  rotate_left
  focus ((intro wq hSw; subst hSw; go_simp); try with_reducible rfl)
  try simp only [Act.put, List.getElem_toArray, List.getElem_cons_succ, List.getElem_cons_zero, List.setIfInBounds_toArray, List.set_cons_zero, List.set_cons_succ]
  refine anyT_take (i := 1) (v := ?_) rfl (by kernel_rfl) (by kernel_rfl) (by kernel_rfl) (by kernel_rfl) (fun _ _ _ h => h) (Or.inl ⟨by rfl, ?_⟩) (rfl) ?_
  rotate_left
  focus ((intro wq hSw; subst hSw; go_simp); try with_reducible rfl)
  try simp only [Act.put, List.getElem_toArray, List.getElem_cons_succ, List.getElem_cons_zero, List.setIfInBounds_toArray, List.set_cons_zero, List.set_cons_succ]
  refine anyT_take (i := 2) (v := ?_) rfl (by kernel_rfl) (by kernel_rfl) (by kernel_rfl) (by kernel_rfl) (fun _ _ _ h => h) (Or.inl ⟨by rfl, ?_⟩) (rfl) ?_
  rotate_left
  focus ((intro wq hSw; subst hSw; go_simp); try with_reducible rfl)
  try simp only [Act.put, List.getElem_toArray, List.getElem_cons_succ, List.getElem_cons_zero, List.setIfInBounds_toArray, List.set_cons_zero, List.set_cons_succ]
  refine anyT_take (i := 3) (v := ?_) rfl (by kernel_rfl) (by kernel_rfl) (by kernel_rfl) (by kernel_rfl) (fun _ _ _ h => h) (Or.inl ⟨by rfl, ?_⟩) (rfl) ?_
  rotate_left
  focus ((intro wq hSw; subst hSw; go_simp); try with_reducible rfl)
  try simp only [Act.put, List.getElem_toArray, List.getElem_cons_succ, List.getElem_cons_zero, List.setIfInBounds_toArray, List.set_cons_zero, List.set_cons_succ]
  refine anyT_take (i := 4) (v := ?_) rfl (by kernel_rfl) (by kernel_rfl) (by kernel_rfl) (by kernel_rfl) (fun _ _ _ h => h) (Or.inl ⟨by rfl, ?_⟩) (rfl) ?_
  rotate_left
  focus ((intro wq hSw; subst hSw; go_simp); try with_reducible rfl)
  try simp only [Act.put, List.getElem_toArray, List.getElem_cons_succ, List.getElem_cons_zero, List.setIfInBounds_toArray, List.set_cons_zero, List.set_cons_succ]
  refine anyT_take (i := 5) (v := ?_) rfl (by kernel_rfl) (by kernel_rfl) (by kernel_rfl) (by kernel_rfl) (fun _ _ _ h => h) (Or.inl ⟨by rfl, ?_⟩) (rfl) ?_
  rotate_left
  focus ((intro wq hSw; subst hSw; go_simp); try with_reducible rfl)
  try simp only [Act.put, List.getElem_toArray, List.getElem_cons_succ, List.getElem_cons_zero, List.setIfInBounds_toArray, List.set_cons_zero, List.set_cons_succ]
  refine anyT_take (i := 6) (v := ?_) rfl (by kernel_rfl) (by kernel_rfl) (by kernel_rfl) (by kernel_rfl) (fun _ _ _ h => h) (Or.inl ⟨by rfl, ?_⟩) (rfl) ?_
  rotate_left
  focus ((intro wq hSw; subst hSw; go_simp); try with_reducible rfl)
  try simp only [Act.put, List.getElem_toArray, List.getElem_cons_succ, List.getElem_cons_zero, List.setIfInBounds_toArray, List.set_cons_zero, List.set_cons_succ]
  refine anyT_take (i := 7) (v := ?_) rfl (by kernel_rfl) (by kernel_rfl) (by kernel_rfl) (by kernel_rfl) (fun _ _ _ h => h) (Or.inl ⟨by rfl, ?_⟩) (rfl) ?_
  rotate_left
  focus ((intro wq hSw; subst hSw; go_simp); try with_reducible rfl)
  try simp only [Act.put, List.getElem_toArray, List.getElem_cons_succ, List.getElem_cons_zero, List.setIfInBounds_toArray, List.set_cons_zero, List.set_cons_succ]
  refine anyT_one (i := 8) (by kernel_rfl) rfl (fun K hK => ?_)
  go_simp
  refine (HMU.out _).mono ?_
  rintro y wk ⟨rfl, rfl⟩
  go_simp
  refine hK.out _ _ (fun _ => rfl) ?_
  clear hK K
  try simp only [Act.put, List.getElem_toArray, List.getElem_cons_succ, List.getElem_cons_zero, List.setIfInBounds_toArray, List.set_cons_zero, List.set_cons_succ]
  refine anyT_done (by kernel_rfl) ?_ _
  go_wp2_with fail
  have S0 : Below w.heap.size w w.drew.drew := ((Below.refl _ _).drew).drew
  refine region_T (S := fun wx => Below w.heap.size w wx) [8, 9] (by kernel_rfl) S0 (fun _ => ?_)
  refine anyT_take (i := 0) (v := ?_) rfl (by kernel_rfl) (by kernel_rfl) (by kernel_rfl) (by kernel_rfl) (fun _ _ _ h => h) (Or.inl ⟨by rfl, ?_⟩) (S0) ?_
  rotate_left
  focus ((intro wq hSw; have z1 := (Same.of_below hSw).cell kq; have z2 := (Same.of_below hSw).cell c1; have z3 := (Same.of_below hSw).cell kb; have z4 := (Same.of_below hSw).cell kp; go_simp); try with_reducible rfl)
  try simp only [Act.put, List.getElem_toArray, List.getElem_cons_succ, List.getElem_cons_zero, List.setIfInBounds_toArray, List.set_cons_zero, List.set_cons_succ]
  refine anyT_take (i := 1) (v := ?_) rfl (by kernel_rfl) (by kernel_rfl) (by kernel_rfl) (by kernel_rfl) (fun _ _ _ h => h) (Or.inl ⟨by rfl, ?_⟩) (S0) ?_
  rotate_left
  focus ((intro wq hSw; have z1 := (Same.of_below hSw).cell kq; have z2 := (Same.of_below hSw).cell c1; have z3 := (Same.of_below hSw).cell kb; have z4 := (Same.of_below hSw).cell kp; go_simp); try with_reducible rfl)
  try simp only [Act.put, List.getElem_toArray, List.getElem_cons_succ, List.getElem_cons_zero, List.setIfInBounds_toArray, List.set_cons_zero, List.set_cons_succ]
  refine anyT_take (i := 2) (v := ?_) rfl (by kernel_rfl) (by kernel_rfl) (by kernel_rfl) (by kernel_rfl) (fun _ _ _ h => h) (Or.inl ⟨by rfl, ?_⟩) (S0) ?_
  rotate_left
  focus ((intro wq hSw; have z1 := (Same.of_below hSw).cell kq; have z2 := (Same.of_below hSw).cell c1; have z3 := (Same.of_below hSw).cell kb; have z4 := (Same.of_below hSw).cell kp; go_simp); try with_reducible rfl)
  try simp only [Act.put, List.getElem_toArray, List.getElem_cons_succ, List.getElem_cons_zero, List.setIfInBounds_toArray, List.set_cons_zero, List.set_cons_succ]
  refine anyT_take (i := 3) (v := ?_) rfl (by kernel_rfl) (by kernel_rfl) (by kernel_rfl) (by kernel_rfl) (fun _ _ _ h => h) (Or.inl ⟨by rfl, ?_⟩) (S0) ?_
  rotate_left
  focus ((intro wq hSw; have z1 := (Same.of_below hSw).cell kq; have z2 := (Same.of_below hSw).cell c1; have z3 := (Same.of_below hSw).cell kb; have z4 := (Same.of_below hSw).cell kp; go_simp); try with_reducible rfl)
  try simp only [Act.put, List.getElem_toArray, List.getElem_cons_succ, List.getElem_cons_zero, List.setIfInBounds_toArray, List.set_cons_zero, List.set_cons_succ]
  refine anyT_take (i := 4) (v := ?_) rfl (by kernel_rfl) (by kernel_rfl) (by kernel_rfl) (by kernel_rfl) (fun _ _ _ h => h) (Or.inl ⟨by rfl, ?_⟩) (S0) ?_
  rotate_left
  focus ((intro wq hSw; have z1 := (Same.of_below hSw).cell kq; have z2 := (Same.of_below hSw).cell c1; have z3 := (Same.of_below hSw).cell kb; have z4 := (Same.of_below hSw).cell kp; go_simp); try with_reducible rfl)
  try simp only [Act.put, List.getElem_toArray, List.getElem_cons_succ, List.getElem_cons_zero, List.setIfInBounds_toArray, List.set_cons_zero, List.set_cons_succ]
  refine anyT_take (i := 5) (v := ?_) rfl (by kernel_rfl) (by kernel_rfl) (by kernel_rfl) (by kernel_rfl) (fun _ _ _ h => h) (Or.inl ⟨by rfl, ?_⟩) (S0) ?_
  rotate_left
  focus ((intro wq hSw; have z1 := (Same.of_below hSw).cell kq; have z2 := (Same.of_below hSw).cell c1; have z3 := (Same.of_below hSw).cell kb; have z4 := (Same.of_below hSw).cell kp; go_simp); try with_reducible rfl)
  try simp only [Act.put, List.getElem_toArray, List.getElem_cons_succ, List.getElem_cons_zero, List.setIfInBounds_toArray, List.set_cons_zero, List.set_cons_succ]
  refine anyT_take (i := 6) (v := ?_) rfl (by kernel_rfl) (by kernel_rfl) (by kernel_rfl) (by kernel_rfl) (fun _ _ _ h => h) (Or.inl ⟨by rfl, ?_⟩) (S0) ?_
  rotate_left
  focus ((intro wq hSw; have z1 := (Same.of_below hSw).cell kq; have z2 := (Same.of_below hSw).cell c1; have z3 := (Same.of_below hSw).cell kb; have z4 := (Same.of_below hSw).cell kp; go_simp); try with_reducible rfl)
  try simp only [Act.put, List.getElem_toArray, List.getElem_cons_succ, List.getElem_cons_zero, List.setIfInBounds_toArray, List.set_cons_zero, List.set_cons_succ]
  refine anyT_one (i := 7) (by kernel_rfl) rfl (fun K hK => ?_)
  go_simp
  refine (HRND.out _ (HTOP.out.drew).drew).mono ?_
  rintro y W4 ⟨P2, P3, rfl, hp2, hp3, k2, k3, hb4⟩
  have hS4 : Below w.heap.size w W4 := Below.then S0 (Nat.le_refl _) hb4
  have hw69 := HWR.out W4 P2 P3 hS4 hp2 hp3 k2 k3
  rw [HVA.out] at hw69
  go_simp
  refine hK.out _ _ (fun _ => hS4) ?_
  clear hK K
  try simp only [Act.put, List.getElem_toArray, List.getElem_cons_succ, List.getElem_cons_zero, List.setIfInBounds_toArray, List.set_cons_zero, List.set_cons_succ]
  refine anyT_one (i := 8) (by kernel_rfl) rfl (fun K hK => ?_)
  go_simp
  refine hw69.mono ?_
  rintro y W5 ⟨rfl, hds, hkp⟩
  have HDS := Lib.hid hds
  have HKP := Lib.hid hkp
  clear hds hkp hw69
  go_simp
  refine hK.out _ _ (fun h => by cases h) ?_
  clear hK K
  try simp only [Act.put, List.getElem_toArray, List.getElem_cons_succ, List.getElem_cons_zero, List.setIfInBounds_toArray, List.set_cons_zero, List.set_cons_succ]
  refine anyT_one (i := 9) (by kernel_rfl) rfl (fun K hK => ?_)
  go_simp
  refine hK.out _ _ (fun h => by cases h) ?_
  clear hK K
  try simp only [Act.put, List.getElem_toArray, List.getElem_cons_succ, List.getElem_cons_zero, List.setIfInBounds_toArray, List.set_cons_zero, List.set_cons_succ]
  refine anyT_done (by kernel_rfl) ?_ _
  go_wp2_with fail
  go_ret
  exact ⟨_, rfl, ⟨rfl, HDS.out⟩, HKP.out⟩
end Go.Proofs.Ytegomicpolnpoaa
